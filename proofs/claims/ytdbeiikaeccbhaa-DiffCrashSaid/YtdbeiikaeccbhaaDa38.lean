/- Texts of the layers below, joined. -/
import Derived.Test.YtdbeiikaeccbhaaDa37
set_option maxRecDepth 100000
set_option maxHeartbeats 12800000
set_option linter.unusedVariables false
namespace Go.Proofs.Ytdbeiikaeccbhaa
open Go.RowKit
theorem rsamea_yes (A:Option Addr) (n c:Nat) (base:Nat) (L:List Ax) (A':Option Addr) (c':Nat) (base':Nat) (L':List Ax) (l:List Ac) (w:World) (h1:OwnAcs w base A n c L) (x1:AxIs w L l) (h2:OwnAcs w base' A' n c' L') (x2:AxIs w L' l) (hn:n≤1000) :
  Calls Try.prog 14 #[.slice A n c,.slice A' n c'] w fun e w'=>e=.returned (.bool true)∧Below w.heap.size w w':=by
 have P1:=Lh h1
 have P2:=Lh h2
 have X1:=Lh x1
 have X2:=Lh x2
 have N1:=Lh h1.2
 have N2:=Lh h2.2
 clear h1 h2 x1 x2
 have hnn:((n:Int) != (n:Int))=false:=by simp
 go_enter Try.func14,Try.ntmps14
 go_wp2
 go_loopw [5] (fun i wr=>∃ j:Nat,j≤n∧i=.int .i64 j∧∃ q,wr=w.drewN q) (fun i _=>n - (intOf i).toNat)
 case atStart=>exact ⟨0,Nat.zero_le _,rfl,0,rfl⟩
 case round =>
  obtain ⟨j,hj,rfl,q,rfl⟩:=hrel
  by_cases hjk:j < n
  ·have hji:(j:Int) < (n:Int):=by omega
   obtain ⟨b1,rfl,hlt1,k1,i1,s1⟩:=P1.out.row hjk
   obtain ⟨b2,rfl,hlt2,k2,i2,s2⟩:=P2.out.row hjk
   obtain ⟨e1,f1,a1⟩:=X1.out.2 j (by rw [N1.out];exact hjk)
   obtain ⟨e2,f2,a2⟩:=X2.out.2 j (by rw [N2.out];exact hjk)
   rw [e1] at k1
   rw [e2] at k2
   rw [f1] at i1
   rw [f2] at i2
   obtain ⟨y1,hy1⟩:∃ y,y=(L.getD j zAx).2.2:=⟨_,rfl⟩
   obtain ⟨y2,hy2⟩:∃ y,y=(L'.getD j zAx).2.2:=⟨_,rfl⟩
   rw [← hy1] at s1 a1
   rw [← hy2] at s2 a2
   clear hy1 hy2
   obtain ⟨A1,n1,c1⟩:=y1
   obtain ⟨A2,n2,c2⟩:=y2
   dsimp only at s1 s2 a1 a2
   have hst1:=fun q=>str_arg (a1.below (below_drewN (Below.refl w.heap.size w) q))
   have hst2:=fun q=>str_arg (a2.below (below_drewN (Below.refl w.heap.size w) q))
   obtain ⟨p,hp⟩:∃ p,p=l.getD j (0,0,[]):=⟨_,rfl⟩
   rw [← hp] at k1 k2 i1 i2 hst1 hst2
   obtain ⟨pk,pa,T⟩:=p
   dsimp only at k1 k2 i1 i2 hst1 hst2
   have hpk:(pk != pk)=false:=by simp
   have hpl:(pk == pk)=true:=by simp
   have hpa:(pa != pa)=false:=by simp
   have hpb:(pa == pa)=true:=by simp
   have hse2:((strOfNums T).toList != (strOfNums T).toList)=false:=by simp
   have hse3:((strOfNums T).toList == (strOfNums T).toList)=true:=by simp
   clear hp a1 a2 hlt1 hlt2 e1 e2 f1 f2
   go_wp2
   go_quiet (fail)
   go_wp2
   go_roundw
   case rel=>exact ⟨j + 1,by omega,by go_num,_,rfl⟩
   all_goals (try case measure=>simp [intOf];omega)
  ·obtain rfl:j=n:=by omega
   go_wp2
   go_ret
   exact ⟨rfl,below_drewN (Below.refl _ _) _⟩
set_option maxRecDepth 100000
structure DiffDoes:Prop where
 mark:∀ (P T A M W Q p:Int) (D:Option Addr) (n c:Nat) (mk:Txt) (D1:Option Addr) (n1 c1:Nat) (wk:Txt) (t:Int) (w:World),Arg w .u8 D n c mk→Arg w .u8 D1 n1 c1 wk→(∀ z ∈ mk,isByte z)→(∀ z ∈ wk,isByte z)→n≤100→n1≤100 →
  Calls Try.prog 7 #[cfgV P T A M W Q,.int .i64 p,.slice D n c,.slice D1 n1 c1,.int .i64 t] w (MkOut w (dmB P T A M W Q p mk wk t) (actW (dmP P T A M W Q p mk wk t)) (dmE P T A M W Q p mk wk t))
 clean:∀ (P T A M W Q p:Int) (D:Option Addr) (n c:Nat) (mk:Txt) (D1:Option Addr) (n1 c1:Nat) (wk:Txt) (w:World),Arg w .u8 D n c mk→Arg w .u8 D1 n1 c1 wk→(∀ z ∈ mk,isByte z)→(∀ z ∈ wk,isByte z)→n≤100→n1≤100 →
  Calls Try.prog 9 #[cfgV P T A M W Q,.int .i64 p,.slice D n c,.slice D1 n1 c1] w (MkOut w (dcB P T A M W Q p mk wk) (actW (dcP P T A M W Q p mk wk)) (dfE P T A M W Q p mk wk))
 fill:∀ (P T A M W Q p:Int) (D:Option Addr) (n c:Nat) (mk:Txt) (w:World),Arg w .u8 D n c mk→(∀ z ∈ mk,isByte z)→n≤100 →
  Calls Try.prog 10 #[cfgV P T A M W Q,.int .i64 p,.slice D n c] w (MkOut w (diB P T A M W Q p mk) (actW (diP P T A M W Q p mk)) (dfE P T A M W Q p mk mk))
theorem act_len (L:List Pnd):(actW L).length≤L.length + 1:=by
 unfold actW
 split
 ·exact Nat.zero_le _
 ·rw [actsA_length];omega
theorem dm_len (P T A M W Q p:Int) (a b:Txt) (t:Int):(dmB P T A M W Q p a b t).length≤a.length∧(actW (dmP P T A M W Q p a b t)).length≤a.length + 1:=by
 refine ⟨?_,Nat.le_trans (act_len _) (Nat.succ_le_succ ?_)⟩
 ·unfold dmB;split
  ·rw [outW_length];omega
  ·exact Nat.zero_le _
 ·unfold dmP;split
  ·exact whP_len _
  ·exact Nat.zero_le _
theorem dc_len (P T A M W Q p:Int) (a b:Txt):(dcB P T A M W Q p a b).length≤a.length∧(actW (dcP P T A M W Q p a b)).length≤a.length + 1:=by
 refine ⟨?_,Nat.le_trans (act_len _) (Nat.succ_le_succ ?_)⟩
 ·unfold dcB;split
  ·rw [outW_length];omega
  ·exact Nat.zero_le _
 ·unfold dcP;split
  ·exact whP_len _
  ·exact Nat.zero_le _
theorem di_len (P T A M W Q p:Int) (a:Txt):(diB P T A M W Q p a).length≤a.length∧(actW (diP P T A M W Q p a)).length≤a.length + 1:=by
 refine ⟨?_,Nat.le_trans (act_len _) (Nat.succ_le_succ ?_)⟩
 ·unfold diB;split
  ·rw [outW_length];omega
  ·exact Nat.zero_le _
 ·unfold diP;split
  ·exact whP_len _
  ·exact Nat.zero_le _
theorem same14_yes {l:List Ac} {n:Nat} (A:Option Addr) (c:Nat) (base:Nat) (A':Option Addr) (c':Nat) (base':Nat) (w:World) (h1:OwnActs w base A n c l) (h2:OwnActs w base' A' n c' l) (hn:n≤1000) :
  Calls Try.prog 14 #[.slice A n c,.slice A' n c'] w fun e w'=>e=.returned (.bool true)∧Below w.heap.size w w':=by
 obtain ⟨L,o1,x1⟩:=h1.is
 obtain ⟨L',o2,x2⟩:=h2.is
 exact rsamea_yes A n c base L A' c' base' L' l w o1 x1 o2 x2 hn
set_option maxRecDepth 100000
theorem dmarks_of (DD:DiffDoes) (P T A M W Q p:Int) (D:Option Addr) (n c:Nat) (mk:Txt) (D1:Option Addr) (n1 c1:Nat) (wk:Txt) (t:Int) (w:World) (h0:Arg w .u8 D n c mk) (h1:Arg w .u8 D1 n1 c1 wk) (y0:∀ z ∈ mk,isByte z) (y1:∀ z ∈ wk,isByte z) :
  Calls Try.prog 4 #[cfgV P T A M W Q,.int .i64 p,.slice D n c,.slice D1 n1 c1,.int .i64 t] w fun e w'=>e=.returned (.bool true)∧Below w.heap.size w w':=by
 obtain ⟨ib,hib,hbz,hb1,hb2⟩:=info_parts byte_info
 have hml:(1000:Nat)≤maxLen:=by decide
 obtain ⟨x,hbel⟩:=box_cfg w P T A M W Q
 obtain ⟨w1,hw1⟩:∃ x:World,x=w.alloc (.cells #[.int .i64 P,.int .i64 T,.int .i64 A,.int .i64 M,.int .i64 W,.int .i64 Q] 28):=⟨_,rfl⟩
 rw [← hw1] at x hbel
 have X:=Lh x
 have B:=Lh hbel
 have R0:=Lh (h0.below hbel)
 have R1:=Lh (h1.below hbel)
 have hl0:=h0.len
 have hl1:=h1.len
 by_cases g0:100 < n
 ·have q1:(100:Int) < (n:Int):=by omega
  clear h0 h1 y0 y1 hl0 hl1 g0 x hbel
  go_enter Try.func4,Try.ntmps4
  go_upto_region 1 with fail
  rw [← hw1]
  clear hw1
  go_wp2
  go_ret
  exact ⟨rfl,B.out⟩
 by_cases g1:100 < n1
 ·have q1:¬ (100:Int) < (n:Int):=by omega
  have q2:(100:Int) < (n1:Int):=by omega
  clear h0 h1 y0 y1 hl0 hl1 g0 g1 x hbel
  go_enter Try.func4,Try.ntmps4
  go_upto_region 1 with fail
  rw [← hw1]
  clear hw1
  go_wp2
  go_ret
  exact ⟨rfl,B.out⟩
 have q1:¬ (100:Int) < (n:Int):=by omega
 have q2:¬ (100:Int) < (n1:Int):=by omega
 have hn:n≤100:=by omega
 have hn1:n1≤100:=by omega
 have M1:=Lh (fun Da ca Db cb wx (hx:Arg wx .u8 Da n ca mk) (hy:Arg wx .u8 Db n1 cb wk)=>DD.mark P T A M W Q p Da n ca mk Db n1 cb wk t wx hx hy y0 y1 hn hn1)
 have M2:=Lh (fun wx (hx:Arg wx .u8 D n c mk) (hy:Arg wx .u8 D1 n1 c1 wk)=>rmark14_any P T A M W Q p D n c mk D1 n1 c1 wk t wx hx hy y0 y1)
 obtain ⟨k1,k2⟩:=dm_len P T A M W Q p mk wk t
 obtain ⟨o,ho⟩:∃ o,o=dmB P T A M W Q p mk wk t:=⟨_,rfl⟩
 obtain ⟨l,hl⟩:∃ l,l=actW (dmP P T A M W Q p mk wk t):=⟨_,rfl⟩
 obtain ⟨E,hE⟩:∃ l,l=dmE P T A M W Q p mk wk t:=⟨_,rfl⟩
 rw [← ho,← hl,← hE] at M1 M2
 rw [← ho] at k1
 rw [← hl] at k2
 unfold MkOut at M1 M2
 obtain ⟨m,hm⟩:∃ n,n=o.length:=⟨_,rfl⟩
 obtain ⟨nl,hnl⟩:∃ n,n=l.length:=⟨_,rfl⟩
 rw [← hm,← hnl] at M1 M2
 rw [← hm,hl0] at k1
 rw [← hnl,hl0] at k2
 have L0:=Lh hl0
 have L1:=Lh hl1
 obtain ⟨s,hs⟩:∃ s,s=strOfNums o:=⟨_,rfl⟩
 obtain ⟨sa,hsa⟩:∃ s,s=strOfNums mk:=⟨_,rfl⟩
 obtain ⟨sb,hsb⟩:∃ s,s=strOfNums wk:=⟨_,rfl⟩
 have HS:=Lh hs
 have HA:=Lh hsa
 have HB:=Lh hsb
 have he:(E == E)=true:=beq_self_eq_true _
 have hst:(s.toList == s.toList)=true:=beq_self_eq_true _
 have hsta:(sa.toList == sa.toList)=true:=beq_self_eq_true _
 have hstb:(sb.toList == sb.toList)=true:=beq_self_eq_true _
 have hnlk:nl≤1000:=by omega
 have SA:=Lh (fun (A:Option Addr) (c base:Nat) (A':Option Addr) (c' base':Nat) (wx:World) (hx:OwnActs wx base A nl c l) (hy:OwnActs wx base' A' nl c' l)=>same14_yes A c base A' c' base' wx hx hy hnlk)
 have hm100:m≤100:=by omega
 clear h0 h1 y0 y1 hl0 hl1 g0 g1 x hbel ho hl hE hm hnl hs hsa hsb k1 k2 hnlk
 go_enter Try.func4,Try.ntmps4
 go_upto_region 1 with fail
 rw [← hw1]
 clear hw1
 go_upto_region 4 with (first
  | (at_builtin;(refine wpList_dup w1 rfl (.tmp 29) (.tmp 30) _ rfl 5 ib _ 1 Try.underlying22 hib hbz hb1 hb2 rfl rfl D n c (ints .u8 mk) rfl (by rw [ints_length];exact L0.out) R0.out.seq (ints_one _ _) (by omega) (by omega) ?_);intro AM cM w2 hownM hbM;have OM:=Lh hownM;have BM:=Lh hbM;have R1b:=Lh (R1.out.below hbM);clear hownM hbM)
  | (at_builtin;(refine wpList_dup w2 rfl (.tmp 32) (.tmp 33) _ rfl 5 ib _ 1 Try.underlying22 hib hbz hb1 hb2 rfl rfl D1 n1 c1 (ints .u8 wk) rfl (by rw [ints_length];exact L1.out) R1b.out.seq (ints_one _ _) (by omega) (by omega) ?_);intro AK cK w3 hownK hbK;have OK:=Lh hownK;have BK:=Lh hbK;clear hownK hbK))
 have B3:=Lh (BM.out.trans (BK.out.mono BM.out.size))
 have X:=Lh (X.out.below B3.out X.out.lt)
 have R0:=Lh (R0.out.below B3.out)
 have R1:=Lh (R1.out.below B3.out)
 have B:=Lh (B.out.trans (B3.out.mono B.out.size))
 have RM:=Lh (Arg.own (owns_below OM.out BK.out))
 have RK:=Lh (Arg.own OK.out)
 obtain ⟨c0,c1',c2,c3,c4,c5⟩:=X.out.cfg
 clear OM BM R1b OK BK B3
 go_wp2_with fail
 refine (M1.out _ _ _ _ _ RM.out RK.out).mono ?_
 rintro e w4 ⟨A4,r4,A4',r4',rfl,hown,hact,hb⟩
 have B4:=Lh hb
 have R4:=Lh hown
 have C4:=Lh hact
 have X4:=Lh (X.out.below hb X.out.lt)
 have R04:=Lh (R0.out.below hb)
 have R14:=Lh (R1.out.below hb)
 clear hown hact hb c0 c1' c2 c3 c4 c5 M1
 obtain ⟨c0,c1',c2,c3,c4,c5⟩:=X4.out.cfg
 go_wp2_with fail
 refine (M2.out _ R04.out R14.out).mono ?_
 rintro e w5 ⟨A5,r5,A5',r5',rfl,hown,hact,hb⟩
 have q3:=str_arg (Arg.own (owns_below R4.out hb))
 have q4:=str_arg (Arg.own hown)
 rw [← HS.out] at q3 q4
 have R4:=Lh (owns_below R4.out hb)
 have C4:=Lh (C4.out.below hb)
 have C5:=Lh hact
 have B4:=Lh (B4.out.trans (hb.mono B4.out.size))
 clear hown hact hb c0 c1' c2 c3 c4 c5 M2 X4 R04 R14
 go_wp2_with fail
 refine (SA.out _ _ _ _ _ _ _ C4.out C5.out).mono ?_
 rintro e w6 ⟨rfl,hb⟩
 have R4:=Lh (owns_below R4.out hb)
 have B4:=Lh (B4.out.trans (hb.mono B4.out.size))
 clear hb q3 q4 C4 C5 SA
 go_wp2
 go_loopw [20] (fun i wr=>∃ (k:Nat) (l:List Int),k≤m∧i=.int .i64 k∧wr.ownsRow w3.heap.size 5 1 (.slice A4 m r4) m (ints .u8 l)∧Below w3.heap.size w3 wr) (fun i _=>m - (intOf i).toNat)
 case atStart=>exact ⟨0,o,Nat.zero_le _,rfl,R4.out,B4.out⟩
 case round =>
  obtain ⟨k,l2,hk,rfl,hown,hb⟩:=hrel
  have R:=Lh hown
  have BW:=Lh hb
  clear hown hb
  by_cases hkm:k < m
  ·have hki:(k:Int) < (m:Int):=by omega
   have hwr2:IntKind.i64.wrap (k:Int)=k:=Lib.wrap_i64_small k (by omega)
   obtain ⟨g,rfl,hg,hc,hf,hset⟩:=owns_int_at R.out hkm
   obtain ⟨z,hz⟩:∃ z,z=l2.getD k 0:=⟨_,rfl⟩
   rw [← hz] at hc
   have SET:=Lh hset
   have HG:=Lh hg
   clear hset hz hg
   go_wp2
   go_roundw
   case rel=>exact ⟨k + 1,l2.set k _,by omega,by go_num,SET.out _,BW.out.setCell (p:=⟨g,k,none⟩) HG.out _⟩
   case measure=>simp [intOf];omega
  ·obtain rfl:k=m:=by omega
   have B:=Lh (B.out.trans (BW.out.mono B.out.size))
   have q5:=str_arg (RM.out.below BW.out)
   have q6:=str_arg (RK.out.below BW.out)
   have q7:=str_arg (R0.out.below BW.out)
   have q8:=str_arg (R1.out.below BW.out)
   rw [← HA.out] at q5 q7
   rw [← HB.out] at q6 q8
   go_wp2
   go_ret
   exact ⟨rfl,B.out⟩
end Go.Proofs.Ytdbeiikaeccbhaa
