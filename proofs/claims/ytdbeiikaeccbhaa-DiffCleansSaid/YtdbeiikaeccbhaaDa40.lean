/- Texts of the layers below, joined. -/
import Derived.Test.YtdbeiikaeccbhaaDa38
import Derived.Deep.RegionHeld3
set_option maxRecDepth 100000
set_option maxHeartbeats 12800000
set_option linter.unusedVariables false
namespace Go.Proofs.Ytdbeiikaeccbhaa
open Go.RowKit
set_option maxRecDepth 100000
theorem owns_above {w:World} {base g:Nat} {t:TypeId} {A:Option Addr} {n c:Nat} {xs:List Value} (h:w.ownsRow base t 1 (.slice A n c) n xs) (hg:g < base) (i:Nat) (u:Value):(w.setCell ⟨g,i,none⟩ u).ownsRow base t 1 (.slice A n c) n xs:=by
 refine h.kept (grownBy_set w g i u) ?_
 rcases ho:(Value.slice A n c).ownBlock with _ | k
 ·exact .inl rfl
 ·refine .inr fun e=>?_
  injection e with e
  have:=(h.lt k ho).1
  omega
theorem dcleans_of (DD:DiffDoes) (P T A M W Q p:Int) (D:Option Addr) (n c:Nat) (mk:Txt) (D1:Option Addr) (n1 c1:Nat) (wk:Txt) (w:World) (h0:Arg w .u8 D n c mk) (h1:Arg w .u8 D1 n1 c1 wk) (y0:∀ z ∈ mk,isByte z) (y1:∀ z ∈ wk,isByte z) :
  Calls Try.prog 5 #[cfgV P T A M W Q,.int .i64 p,.slice D n c,.slice D1 n1 c1] w fun e w'=>e=.returned (.bool true)∧Below w.heap.size w w':=by
 obtain ⟨ib,hib,hbz,hb1,hb2⟩:=info_parts byte_info
 have hml:(1000:Nat)≤maxLen:=by decide
 obtain ⟨x,hbel⟩:=box_cfg w P T A M W Q
 obtain ⟨w1,hw1⟩:∃ x:World,x=w.alloc (.cells #[.int .i64 P,.int .i64 T,.int .i64 A,.int .i64 M,.int .i64 W,.int .i64 Q] 28):=⟨_,rfl⟩
 rw [← hw1] at x hbel
 have X:=Lh x
 have B:=Lh hbel
 have R0:=Lh (h0.below hbel)
 have R1:=Lh (h1.below hbel)
 have hl0:=h0.len
 have hl1:=h1.len
 by_cases g0:100 < n
 ·have q1:(100:Int) < (n:Int):=by omega
  clear h0 h1 y0 y1 hl0 hl1 g0 x hbel
  go_enter Try.func5,Try.ntmps5
  go_upto_region 1 with fail
  rw [← hw1]
  clear hw1
  go_wp2
  go_ret
  exact ⟨rfl,B.out⟩
 by_cases g1:100 < n1
 ·have q1:¬ (100:Int) < (n:Int):=by omega
  have q2:(100:Int) < (n1:Int):=by omega
  clear h0 h1 y0 y1 hl0 hl1 g0 g1 x hbel
  go_enter Try.func5,Try.ntmps5
  go_upto_region 1 with fail
  rw [← hw1]
  clear hw1
  go_wp2
  go_ret
  exact ⟨rfl,B.out⟩
 have q1:¬ (100:Int) < (n:Int):=by omega
 have q2:¬ (100:Int) < (n1:Int):=by omega
 have hn:n≤100:=by omega
 have hn1:n1≤100:=by omega
 have M1:=Lh (fun Da ca Db cb wx (hx:Arg wx .u8 Da n ca mk) (hy:Arg wx .u8 Db n1 cb wk)=>DD.clean P T A M W Q p Da n ca mk Db n1 cb wk wx hx hy y0 y1 hn hn1)
 have M2:=Lh (fun wx (hx:Arg wx .u8 D n c mk) (hy:Arg wx .u8 D1 n1 c1 wk)=>rclean14_any P T A M W Q p D n c mk D1 n1 c1 wk wx hx hy y0 y1)
 have M3:=Lh (fun Da ca wx (hx:Arg wx .u8 Da n ca mk)=>DD.fill P T A M W Q p Da n ca mk wx hx y0 hn)
 have M4:=Lh (fun wx (hx:Arg wx .u8 D n c mk)=>rfill14_any P T A M W Q p D n c mk wx hx y0)
 obtain ⟨k1,k2⟩:=dc_len P T A M W Q p mk wk
 obtain ⟨k3,k4⟩:=di_len P T A M W Q p mk
 obtain ⟨o,ho⟩:∃ o,o=dcB P T A M W Q p mk wk:=⟨_,rfl⟩
 obtain ⟨l,hl⟩:∃ l,l=actW (dcP P T A M W Q p mk wk):=⟨_,rfl⟩
 obtain ⟨E,hE⟩:∃ l,l=dfE P T A M W Q p mk wk:=⟨_,rfl⟩
 obtain ⟨o6,ho6⟩:∃ o,o=diB P T A M W Q p mk:=⟨_,rfl⟩
 obtain ⟨l6,hl6⟩:∃ l,l=actW (diP P T A M W Q p mk):=⟨_,rfl⟩
 obtain ⟨E6,hE6⟩:∃ l,l=dfE P T A M W Q p mk mk:=⟨_,rfl⟩
 rw [← ho,← hl,← hE] at M1 M2
 rw [← ho6,← hl6,← hE6] at M3 M4
 rw [← ho] at k1
 rw [← hl] at k2
 rw [← ho6] at k3
 rw [← hl6] at k4
 unfold MkOut at M1 M2 M3 M4
 obtain ⟨m,hm⟩:∃ n,n=o.length:=⟨_,rfl⟩
 obtain ⟨nl,hnl⟩:∃ n,n=l.length:=⟨_,rfl⟩
 obtain ⟨m6,hm6⟩:∃ n,n=o6.length:=⟨_,rfl⟩
 obtain ⟨nl6,hnl6⟩:∃ n,n=l6.length:=⟨_,rfl⟩
 rw [← hm,← hnl] at M1 M2
 rw [← hm6,← hnl6] at M3 M4
 rw [← hm,hl0] at k1
 rw [← hnl,hl0] at k2
 rw [← hm6,hl0] at k3
 rw [← hnl6,hl0] at k4
 have L0:=Lh hl0
 have L1:=Lh hl1
 obtain ⟨s,hs⟩:∃ s,s=strOfNums o:=⟨_,rfl⟩
 obtain ⟨s6,hs6⟩:∃ s,s=strOfNums o6:=⟨_,rfl⟩
 obtain ⟨sa,hsa⟩:∃ s,s=strOfNums mk:=⟨_,rfl⟩
 obtain ⟨sb,hsb⟩:∃ s,s=strOfNums wk:=⟨_,rfl⟩
 have HS:=Lh hs
 have HS6:=Lh hs6
 have HA:=Lh hsa
 have HB:=Lh hsb
 have he:(E == E)=true:=beq_self_eq_true _
 have he6:(E6 == E6)=true:=beq_self_eq_true _
 have hst:(s.toList == s.toList)=true:=beq_self_eq_true _
 have hst6:(s6.toList == s6.toList)=true:=beq_self_eq_true _
 have hsta:(sa.toList == sa.toList)=true:=beq_self_eq_true _
 have hstb:(sb.toList == sb.toList)=true:=beq_self_eq_true _
 have hnlk:nl≤1000:=by omega
 have hnlk6:nl6≤1000:=by omega
 have SA:=Lh (fun (A:Option Addr) (c base:Nat) (A':Option Addr) (c' base':Nat) (wx:World) (hx:OwnActs wx base A nl c l) (hy:OwnActs wx base' A' nl c' l)=>same14_yes A c base A' c' base' wx hx hy hnlk)
 have SA6:=Lh (fun (A:Option Addr) (c base:Nat) (A':Option Addr) (c' base':Nat) (wx:World) (hx:OwnActs wx base A nl6 c l6) (hy:OwnActs wx base' A' nl6 c' l6)=>same14_yes A c base A' c' base' wx hx hy hnlk6)
 have hm100:m≤100:=by omega
 have hm600:m6≤100:=by omega
 clear h0 h1 y0 y1 hl0 hl1 g0 g1 x hbel ho hl hE hm hnl ho6 hl6 hE6 hm6 hnl6 hs hs6 hsa hsb k1 k2 k3 k4 hnlk hnlk6
 go_enter Try.func5,Try.ntmps5
 go_upto_region 1 with fail
 rw [← hw1]
 clear hw1
 go_upto_region 4 with (first
  | (at_builtin;(refine wpList_dup w1 rfl (.tmp 34) (.tmp 35) _ rfl 5 ib _ 1 Try.underlying22 hib hbz hb1 hb2 rfl rfl D n c (ints .u8 mk) rfl (by rw [ints_length];exact L0.out) R0.out.seq (ints_one _ _) (by omega) (by omega) ?_);intro AM cM w2 hownM hbM;have OM:=Lh hownM;have BM:=Lh hbM;have R1b:=Lh (R1.out.below hbM);clear hownM hbM)
  | (at_builtin;(refine wpList_dup w2 rfl (.tmp 37) (.tmp 38) _ rfl 5 ib _ 1 Try.underlying22 hib hbz hb1 hb2 rfl rfl D1 n1 c1 (ints .u8 wk) rfl (by rw [ints_length];exact L1.out) R1b.out.seq (ints_one _ _) (by omega) (by omega) ?_);intro AK cK w3 hownK hbK;have OK:=Lh hownK;have BK:=Lh hbK;clear hownK hbK))
 have B3:=Lh (BM.out.trans (BK.out.mono BM.out.size))
 have X:=Lh (X.out.below B3.out X.out.lt)
 have R0:=Lh (R0.out.below B3.out)
 have R1:=Lh (R1.out.below B3.out)
 have B:=Lh (B.out.trans (B3.out.mono B.out.size))
 have RM:=Lh (Arg.own (owns_below OM.out BK.out))
 have RK:=Lh (Arg.own OK.out)
 obtain ⟨c0,c1',c2,c3,c4,c5⟩:=X.out.cfg
 clear OM BM R1b OK BK B3
 go_wp2_with fail
 refine (M1.out _ _ _ _ _ RM.out RK.out).mono ?_
 rintro e w4 ⟨A4,r4,A4',r4',rfl,hown,hact,hb⟩
 have B4:=Lh hb
 have R4:=Lh hown
 have C4:=Lh hact
 have X4:=Lh (X.out.below hb X.out.lt)
 have R04:=Lh (R0.out.below hb)
 have R14:=Lh (R1.out.below hb)
 clear hown hact hb c0 c1' c2 c3 c4 c5 M1
 obtain ⟨c0,c1',c2,c3,c4,c5⟩:=X4.out.cfg
 go_wp2_with fail
 refine (M2.out _ R04.out R14.out).mono ?_
 rintro e w5 ⟨A5,r5,A5',r5',rfl,hown,hact,hb⟩
 have R4:=Lh (owns_below R4.out hb)
 have C4:=Lh (C4.out.below hb)
 have R5:=Lh (Arg.own hown)
 have C5:=Lh hact
 have B5:=Lh (B4.out.trans (hb.mono B4.out.size))
 have X5:=Lh (X4.out.below hb X4.out.lt)
 have R05:=Lh (R04.out.below hb)
 have RM5:=Lh (RM.out.below B5.out)
 clear hown hact hb c0 c1' c2 c3 c4 c5 M2 X4 R04 R14 B4
 obtain ⟨c0,c1',c2,c3,c4,c5⟩:=X5.out.cfg
 go_wp2_with fail
 refine (M3.out _ _ _ RM5.out).mono ?_
 rintro e w6 ⟨A6,r6,A6',r6',rfl,hown,hact,hb⟩
 have HLT:=Lh R4.out.lt
 have R4:=Lh (owns_below R4.out hb)
 have C4:=Lh (C4.out.below hb)
 have R5:=Lh (R5.out.below hb)
 have C5:=Lh (C5.out.below hb)
 have R6:=Lh hown
 have C6:=Lh hact
 have B6:=Lh (B5.out.trans (hb.mono B5.out.size))
 have X6:=Lh (X5.out.below hb X5.out.lt)
 have R06:=Lh (R05.out.below hb)
 clear hown hact hb c0 c1' c2 c3 c4 c5 M3 X5 R05 RM5
 obtain ⟨c0,c1',c2,c3,c4,c5⟩:=X6.out.cfg
 go_wp2_with fail
 refine (M4.out _ R06.out).mono ?_
 rintro e w7 ⟨A7,r7,A7',r7',rfl,hown,hact,hb⟩
 have R4:=Lh (owns_below R4.out hb)
 have C4:=Lh (C4.out.below hb)
 have R5:=Lh (R5.out.below hb)
 have C5:=Lh (C5.out.below hb)
 have R6:=Lh (owns_below R6.out hb)
 have C6:=Lh (C6.out.below hb)
 have R7:=Lh (Arg.own hown)
 have C7:=Lh hact
 have B7:=Lh (B6.out.trans (hb.mono B6.out.size))
 have q3:=str_arg (Arg.own R4.out)
 have q4:=str_arg R5.out
 rw [← HS.out] at q3 q4
 clear hown hact hb c0 c1' c2 c3 c4 c5 M4 X6 R06
 go_wp2_with fail
 refine (SA.out _ _ _ _ _ _ _ C4.out C5.out).mono ?_
 rintro e w8 ⟨rfl,hb⟩
 have R4:=Lh (owns_below R4.out hb)
 have R6:=Lh (owns_below R6.out hb)
 have C6:=Lh (C6.out.below hb)
 have R7:=Lh (R7.out.below hb)
 have C7:=Lh (C7.out.below hb)
 have B8:=Lh (B7.out.trans (hb.mono B7.out.size))
 have q3:=str_arg (Arg.own R6.out)
 have q4:=str_arg R7.out
 rw [← HS6.out] at q3 q4
 clear hb C4 C5 SA R5
 go_wp2_with fail
 refine (SA6.out _ _ _ _ _ _ _ C6.out C7.out).mono ?_
 rintro e w9 ⟨rfl,hb⟩
 have R4:=Lh (owns_below R4.out hb)
 have R6:=Lh (owns_below R6.out hb)
 have B9:=Lh (B8.out.trans (hb.mono B8.out.size))
 have HB5:=Lh B5.out.size
 clear hb q3 q4 C6 C7 SA6 R7
 go_wp2
 go_loopw [24] (fun i wr=>∃ (k:Nat) (l:List Int),k≤m∧i=.int .i64 k∧wr.ownsRow w3.heap.size 5 1 (.slice A4 m r4) m (ints .u8 l)∧Below w3.heap.size w3 wr∧wr.ownsRow w5.heap.size 5 1 (.slice A6 m6 r6) m6 (ints .u8 o6)) (fun i _=>m - (intOf i).toNat)
 case atStart=>exact ⟨0,o,Nat.zero_le _,rfl,R4.out,B9.out,R6.out⟩
 case round =>
  obtain ⟨k,l2,hk,rfl,hown,hb,h6⟩:=hrel
  have R:=Lh hown
  have BW:=Lh hb
  have S6:=Lh h6
  clear hown hb h6
  by_cases hkm:k < m
  ·have hki:(k:Int) < (m:Int):=by omega
   have hwr2:IntKind.i64.wrap (k:Int)=k:=Lib.wrap_i64_small k (by omega)
   obtain ⟨g,rfl,hg,hc,hf,hset⟩:=owns_int_at R.out hkm
   obtain ⟨z,hz⟩:∃ z,z=l2.getD k 0:=⟨_,rfl⟩
   rw [← hz] at hc
   have SET:=Lh hset
   have HG:=Lh hg
   have HGL:=Lh (HLT.out g rfl).2
   clear hset hz hg
   go_wp2
   go_roundw
   case rel=>exact ⟨k + 1,l2.set k _,by omega,by go_num,SET.out _,BW.out.setCell (p:=⟨g,k,none⟩) HG.out _,owns_above S6.out HGL.out _ _⟩
   case measure=>simp [intOf];omega
  ·obtain rfl:k=m:=by omega
   go_wp2
   go_loopw [25] (fun i wq=>∃ (k:Nat) (l:List Int),k≤m6∧i=.int .i64 k∧wq.ownsRow w5.heap.size 5 1 (.slice A6 m6 r6) m6 (ints .u8 l)∧Below w3.heap.size w3 wq) (fun i _=>m6 - (intOf i).toNat)
   case atStart=>exact ⟨0,o6,Nat.zero_le _,rfl,S6.out,BW.out⟩
   case round =>
    obtain ⟨j,l3,hj,rfl,hown,hb⟩:=hrel
    have R:=Lh hown
    have BW:=Lh hb
    clear hown hb
    by_cases hjm:j < m6
    ·have hji:(j:Int) < (m6:Int):=by omega
     have hwr2:IntKind.i64.wrap (j:Int)=j:=Lib.wrap_i64_small j (by omega)
     obtain ⟨g,rfl,hg,hc,hf,hset⟩:=owns_int_at R.out hjm
     obtain ⟨z,hz⟩:∃ z,z=l3.getD j 0:=⟨_,rfl⟩
     rw [← hz] at hc
     have SET:=Lh hset
     have HG:=Lh (Nat.le_trans HB5.out hg)
     clear hset hz hg
     go_wp2
     go_roundw
     case rel=>exact ⟨j + 1,l3.set j _,by omega,by go_num,SET.out _,BW.out.setCell (p:=⟨g,j,none⟩) HG.out _⟩
     all_goals (try case measure=>simp [intOf];omega)
    ·obtain rfl:j=m6:=by omega
     have B:=Lh (B.out.trans (BW.out.mono B.out.size))
     have q5:=str_arg (RM.out.below BW.out)
     have q6:=str_arg (RK.out.below BW.out)
     have q7:=str_arg (R0.out.below BW.out)
     have q8:=str_arg (R1.out.below BW.out)
     rw [← HA.out] at q5 q7
     rw [← HB.out] at q6 q8
     go_wp2
     go_ret
     exact ⟨rfl,B.out⟩
theorem done14_any (D:Option Addr) (d:Nat) (D':Option Addr) (d':Nat) (S:List Sec) (C:List Pnd) (A:Option Addr) (n c base:Nat) (L:List Ax) (l:List Ac) (many:Int) (S':List Sec) (C':List Pnd) (w:World) (hq:Dsk w D S.length d D' C.length d' S C) (hs:SmallD S C) (ha:OwnAcs w base A n c L) (hax:AxIs w L l) (hdn:dnA l many.toNat S C=some (S',C')) (hby:∀ a ∈ l,∀ z ∈ a.2.2,isByte z) (hn:n≤1000) :
  Calls Try.prog 19 #[diskV D S.length d D' C.length d',.slice A n c,.int .i64 many] w fun e w'=>∃ B k B' k',e=.returned (.tuple #[diskV B S'.length k B' C'.length k',.bool true])∧DoneD w w' D d D' d' S C B k B' k' S' C'∧SmallD S' C'∧Below w.heap.size w w':=by
 have x:=DBox.new hq
 have h1:Below w.heap.size w (w.alloc (.cells #[.slice D S.length d,.slice D' C.length d'] 56)):=(Below.refl _ _).alloc (Nat.le_refl _) _
 obtain ⟨w1,hw1⟩:∃ y,y=w.alloc (.cells #[.slice D S.length d,.slice D' C.length d'] 56):=⟨_,rfl⟩
 have hs1:w1.heap.size=w.heap.size + 1:=by rw [hw1];simp
 rw [← hw1] at x h1
 have r:=Blk.new w1 56 [.slice none 0 0,.slice none 0 0]
 have h2:Below w1.heap.size w1 (w1.alloc (.cells #[.slice none 0 0,.slice none 0 0] 56)):=(Below.refl _ _).alloc (Nat.le_refl _) _
 obtain ⟨w0,hw0⟩:∃ y,y=w1.alloc (.cells #[.slice none 0 0,.slice none 0 0] 56):=⟨_,rfl⟩
 rw [← hw0] at r h2
 rw [hs1] at r
 have X:=Lh (x.below h2).blk
 have RS:=Lh r
 have BB:=Lh (h1.trans (h2.mono h1.size))
 have HQ:=Lh hq
 have HS:=Lh hs
 have AC:=Lh ha
 have AX:=Lh hax
 have HBY:=Lh hby
 have LN:=Lh (show l.length=n from hax.1.trans ha.2)
 have HD:=Lh hdn
 clear x h1 h2 r hq hs ha hax hdn hby hs1
 go_enter Try.func19,Try.ntmps19
 go_wp2
 rw [← hw1,← hw0]
 clear hw1 hw0
 go_loopw [8] (fun i wr=>∃ (j:Nat) (A1:Option Addr) (c1:Nat) (A1':Option Addr) (c1':Nat) (S1:List Sec) (C1:List Pnd),j≤n∧i=.int .i64 j∧DoneD w wr D d D' d' S C A1 c1 A1' c1' S1 C1∧SmallD S1 C1∧Blk wr w.heap.size 56 [.slice A1 S1.length c1,.slice A1' C1.length c1']∧Blk wr (w.heap.size + 1) 56 [.slice none 0 0,.slice none 0 0]∧dnA (l.drop j) (many.toNat - j) S1 C1=some (S',C')∧Below w.heap.size w wr) (fun i _=>n - (intOf i).toNat)
 case atStart=>exact ⟨0,D,d,D',d',S,C,Nat.zero_le _,rfl,.inr ⟨rfl,rfl,rfl,rfl,rfl,rfl⟩,HS.out,X.out,RS.out,HD.out,BB.out⟩
 case round =>
  obtain ⟨j,A1,c1,A1',c1',S1,C1,hj,rfl,hd,hsm,hx,hr,hdn,hb0⟩:=hrel
  have DD:=Lh hd
  have SM:=Lh hsm
  have XB:=Lh hx
  have RB:=Lh hr
  have DN:=Lh hdn
  have BR:=Lh hb0
  clear hd hsm hx hr hdn hb0
  by_cases hgo:(j:Int) < many∧j < n
  ·obtain ⟨hjm,hjn⟩:=hgo
   have hjn':(j:Int) < (n:Int):=by omega
   obtain ⟨a,ha⟩:∃ y,y=l.getD j (0,0,[]):=⟨_,rfl⟩
   have hjl:j < l.length:=by rw [LN.out];exact hjn
   have hmem:a ∈ l:=by
    rw [ha,gtD,geE hjl]
    exact List.getElem_mem hjl
   have hdrop:l.drop j=a :: l.drop (j + 1):=by
    rw [List.drop_eq_getElem_cons hjl,ha,gtD,geE hjl]
    rfl
   have hdn:=DN.out
   rw [hdrop,show many.toNat - j=(many.toNat - (j + 1)) + 1 by omega] at hdn
   have HM:=Lh (HBY.out a hmem)
   obtain ⟨b1,rfl,hlt1,k1,i1,s1⟩:=(AC.out.below BR.out).row hjn
   obtain ⟨e1,f1,a1⟩:=(AX.out.below BR.out).2 j (by rw [AC.out.2];exact hjn)
   rw [e1,← ha] at k1
   rw [f1,← ha] at i1
   rw [← ha] at a1
   obtain ⟨y1,hy1⟩:∃ y,y=(L.getD j zAx).2.2:=⟨_,rfl⟩
   rw [← hy1] at s1 a1
   obtain ⟨Ab,nb,cb⟩:=y1
   obtain ⟨ak,ax,T⟩:=a
   dsimp only at s1 a1 k1 i1 hdn HM
   have ARG:=Lh a1
   have DQ:=Lh (show Dsk wr A1 S1.length c1 A1' C1.length c1' S1 C1 from by
    rcases DD.out with h | ⟨rfl,rfl,rfl,rfl,rfl,rfl⟩
    ·exact Dsk.of_own h
    ·exact HQ.out.below BR.out)
   have FL:=Lh (dsk_does.flush A1 S1.length c1 A1' C1.length c1' S1 C1 wr DQ.out SM.out)
   have hK:w.heap.size + 1 < wr.heap.size:=RB.out.lt
   obtain ⟨x0,x1⟩:wr.cell? ⟨w.heap.size,0,none⟩=some (.slice A1 S1.length c1)∧wr.cell? ⟨w.heap.size,1,none⟩=some (.slice A1' C1.length c1'):=⟨XB.out.cell 0,XB.out.cell 1⟩
   have hak:ak=1∨ak=2:=by
    by_cases h1:ak=1
    ·exact .inl h1
    ·by_cases h2:ak=2
     ·exact .inr h2
     ·exfalso
      simp only [dnA,if_neg h1,if_neg h2] at hdn
      cases hdn
   have ROW:=Lh (And.intro hlt1 (And.intro k1 (And.intro i1 s1)))
   clear e1 f1 hy1 ha hmem hdrop hjl a1 hlt1 k1 i1 s1
   go_wp2_with fail
   refine FL.out.mono ?_
   rintro e w2 ⟨A2,c2,A2',c2',rfl,hown,hb⟩
   have B2:=Lh (BR.out.trans (hb.mono BR.out.size))
   have DQ:=Lh (DQ.out.below hb)
   have ARG:=Lh (ARG.out.below hb)
   have XB:=Lh (XB.out.below hb XB.out.lt)
   have RB:=Lh (RB.out.below hb RB.out.lt)
   have hK2:w.heap.size + 1 < w2.heap.size:=RB.out.lt
   have hlt2:b1 < w2.heap.size:=Nat.lt_of_lt_of_le ROW.out.1 hb.size
   have ROW:=Lh (show w2.cell? ⟨b1,j * 29,none⟩=some (.int .u8 ak)∧w2.cell? ⟨b1,j * 29 + 1,none⟩=some (.int .i64 ax)∧w2.cell? ⟨b1,j * 29 + 2,none⟩=some (.slice Ab nb cb) from ⟨(hb.cell (p:=⟨b1,j * 29,none⟩) ROW.out.1).trans ROW.out.2.1,(hb.cell (p:=⟨b1,j * 29 + 1,none⟩) ROW.out.1).trans ROW.out.2.2.1,(hb.cell (p:=⟨b1,j * 29 + 2,none⟩) ROW.out.1).trans ROW.out.2.2.2⟩)
   have HO:=Lh (hown.lower (base':=w.heap.size) (Nat.le_trans (by omega) BR.out.size))
   clear hown hb x0 x1 hK FL
   have keepX:∀ wx,Below w2.heap.size w2 wx→wx.cell? ⟨w.heap.size,0,none⟩=some (.slice A1 S1.length c1)∧wx.cell? ⟨w.heap.size,1,none⟩=some (.slice A1' C1.length c1')∧wx.cell? ⟨b1,j * 29,none⟩=some (.int .u8 ak)∧wx.cell? ⟨b1,j * 29 + 1,none⟩=some (.int .i64 ax)∧wx.cell? ⟨b1,j * 29 + 2,none⟩=some (.slice Ab nb cb):=fun wx hx =>
    ⟨(XB.out.below hx XB.out.lt).cell 0,(XB.out.below hx XB.out.lt).cell 1,(hx.cell (p:=⟨b1,j * 29,none⟩) hlt2).trans ROW.out.1,(hx.cell (p:=⟨b1,j * 29 + 1,none⟩) hlt2).trans ROW.out.2.1,(hx.cell (p:=⟨b1,j * 29 + 2,none⟩) hlt2).trans ROW.out.2.2⟩
   have hcur:Below w2.heap.size w2 (w2.alloc (.cells #[.slice A2 (flS S1 C1).length c2,.slice A2' 0 c2'] 56)):=(Below.refl _ _).alloc (Nat.le_refl _) _
   obtain ⟨x0,x1,k0,k1,k2⟩:=keepX _ hcur
   have hZ0:=Blk.new w2 56 [.slice A2 (flS S1 C1).length c2,.slice A2' 0 c2']
   go_upto_region 5 with fail
   obtain ⟨w5,hw5⟩:∃ y,y=w2.alloc (.cells #[.slice A2 (flS S1 C1).length c2,.slice A2' 0 c2'] 56):=⟨_,rfl⟩
   rw [← hw5] at hcur x0 x1 k0 k1 k2 hZ0 ⊢
   have HO:=Lh (HO.out.below hcur)
   have XB5:=Lh (XB.out.below hcur XB.out.lt)
   have RB5:=Lh (RB.out.below hcur RB.out.lt)
   have CUR:=Lh hcur
   have Z0:=Lh hZ0
   have x2:=hZ0.cell 0
   have x3:=hZ0.cell 1
   have f0:=XB5.out.free 0
   have f1:=XB5.out.free 1
   simp only [gcZ,gcS] at x2 x3
   clear hw5 hcur hZ0
   rcases hak with rfl | rfl
   ·have hm1:wrE S1 C1 ax T=0∧dnA (l.drop (j + 1)) (many.toNat - (j + 1)) S1 (C1 ++ [(ax,T)])=some (S',C'):=by
     rw [dnA,if_pos rfl] at hdn
     dsimp only at hdn
     split at hdn
     ·rename_i h;exact ⟨h,hdn⟩
     ·cases hdn
    have hsm:=small_wr SM.out hm1.1
    have hT:T.length≤100:=hsm.wide (ax,T) (List.mem_append_right _ (List.mem_cons_self ..))
    have WR:=Lh (fun wx (hx:Below w2.heap.size w2 wx)=>(dsk_does.write A1 S1.length c1 A1' C1.length c1' S1 C1 ax Ab nb cb T wx (DQ.out.below hx) SM.out (ARG.out.below hx) HM.out hT).mono fun e w' ho=>DiskOut.as ho (S':=S1) (C':=C1 ++ [(ax,T)]) (E':=0) (n:=S1.length) (n':=(C1 ++ [(ax,T)]).length) (if_pos hm1.1) (if_pos hm1.1) hm1.1 rfl rfl)
    obtain ⟨C2,hC2⟩:∃ y,y=C1 ++ [(ax,T)]:=⟨_,rfl⟩
    rw [← hC2] at WR hm1 hsm
    have HM1:=Lh (And.intro hsm hm1.2)
    clear hdn hm1 hsm hT hC2
    go_upto_region 6 with fail
    clear x0 x1 x2 x3 k0 k1 k2 f0 f1
    have hcur:Below w2.heap.size w2 w5.drew:=below_drewN CUR.out 1
    have hZ:=Z0.out.below (below_drewN (Below.refl _ _) 1) Z0.out.lt
    have hLL:=Nat.le_refl w2.heap.size
    have hkX:=keepX _ hcur
    go_region_held3 (fun w'=>w'.cell? ⟨w.heap.size,0,none⟩=some (.slice A1 S1.length c1)∧w'.cell? ⟨w.heap.size,1,none⟩=some (.slice A1' C1.length c1')∧w'.cell? ⟨b1,j * 29,none⟩=some (.int .u8 1)∧w'.cell? ⟨b1,j * 29 + 1,none⟩=some (.int .i64 ax)∧w'.cell? ⟨b1,j * 29 + 2,none⟩=some (.slice Ab nb cb))
     (first | exact hkX | exact keepX _ ((hcur.setCell (p:=⟨_,0,none⟩) hLL _).setCell (p:=⟨_,1,none⟩) hLL _) | go_keep)
     (first | (go_at_call 39;with_reducible refine (WR.out _ hcur).mono ?_;rintro e w3 ⟨A9,c9,A9',c9',rfl,hown9,hb9⟩;have hM:=hcur.size;have hcur:=hcur.trans (hb9.mono hcur.size);have hkX:=keepX _ hcur;have hZ:=hZ.below hb9 hZ.lt;have z0:=hZ.cell 0;have z1:=hZ.cell 1;have g0:=hZ.free 0;have g1:=hZ.free 1;simp only [gcZ,gcS] at z0 z1))
    all_goals (
     have O6:=Lh ((hown9.lower (base':=w.heap.size) (Nat.le_trans (by omega) hM)).two hZ (.slice A9 S1.length c9) (.slice A9' C2.length c9'))
     have Z6:=Lh (hZ.two (.slice A9 S1.length c9) (.slice A9' C2.length c9'))
     have B6:=(hcur.setCell (p:=⟨w2.heap.size,0,none⟩) hLL (.slice A9 S1.length c9)).setCell (p:=⟨w2.heap.size,1,none⟩) hLL (.slice A9' C2.length c9')
     clear hkX hM hcur hZ hown9 hb9 z0 z1 g0 g1
     obtain ⟨w6,hw6⟩:∃ y,y=(w3.setCell ⟨w2.heap.size,0,none⟩ (.slice A9 S1.length c9)).setCell ⟨w2.heap.size,1,none⟩ (.slice A9' C2.length c9'):=⟨_,rfl⟩
     rw [← hw6] at O6 Z6 B6 ⊢
     have XB6:=Lh (XB.out.below B6 XB.out.lt)
     have RB6:=Lh (RB.out.below B6 RB.out.lt)
     have BF:=Lh (B2.out.trans (B6.mono B2.out.size))
     have x2:=Z6.out.cell 0
     have x3:=Z6.out.cell 1
     have f0:=XB6.out.free 0
     have f1:=XB6.out.free 1
     obtain ⟨x0,x1,k0,k1,k2⟩:=keepX _ B6
     simp only [gcZ,gcS] at x2 x3
     clear hw6 B6 keepX
     go_wp2
     go_roundw
     case rel =>
      refine ⟨j + 1,A9,c9,A9',c9',S1,C2,by omega,by go_num,.inl (O6.out.two XB6.out _ _),HM1.out.1,XB6.out.two _ _,(RB6.out.away (by omega) 0 _).away (by omega) 1 _,HM1.out.2,below_two BF.out (by omega) _ _⟩
     all_goals (try case measure=>simp [intOf];omega))
   ·have hm2:mayD S1 C1=true∧dnA (l.drop (j + 1)) (many.toNat - (j + 1)) (flS S1 C1) []=some (S',C'):=by
     rw [dnA,if_neg (show ¬ (2:Int)=1 by decide),if_pos rfl] at hdn
     split at hdn
     ·rename_i h;exact ⟨h,hdn⟩
     ·cases hdn
    have hchk:chkD S1 C1=0:=if_pos hm2.1
    have HM2:=Lh hm2
    rw [hchk]
    clear hdn hm2 hchk
    go_wp2
    go_roundw
    case rel =>
     refine ⟨j + 1,A2,c2,A2',c2',flS S1 C1,[],by omega,by go_num,.inl (HO.out.two XB5.out _ _),(cr_small SM.out _),XB5.out.two _ _,(RB5.out.away (by omega) 0 _).away (by omega) 1 _,HM2.out.2,below_two (B2.out.trans (CUR.out.mono B2.out.size)) (by omega) _ _⟩
    all_goals (try case measure=>simp [intOf];omega)
  ·have hend:S1=S'∧C1=C':=by
    have hdn:=DN.out
    by_cases h:(j:Int) < many
    ·have hjn:j=n:=by omega
     rw [hjn,List.drop_eq_nil_of_le (by rw [LN.out];omega),dnA_nil] at hdn
     injection hdn with hdn
     injection hdn with h1 h2
     exact ⟨h1,h2⟩
    ·rw [show many.toNat - j=0 by omega] at hdn
     have:dnA (l.drop j) 0 S1 C1=some (S1,C1):=by cases l.drop j <;> rfl
     rw [this] at hdn
     injection hdn with hdn
     injection hdn with h1 h2
     exact ⟨h1,h2⟩
   obtain ⟨rfl,rfl⟩:=hend
   obtain ⟨x0,x1⟩:wr.cell? ⟨w.heap.size,0,none⟩=some (.slice A1 S1.length c1)∧wr.cell? ⟨w.heap.size,1,none⟩=some (.slice A1' C1.length c1'):=⟨XB.out.cell 0,XB.out.cell 1⟩
   have r0:=RB.out.cell 0
   have r1:=RB.out.cell 1
   have f0:=RB.out.free 0
   have f1:=RB.out.free 1
   simp only [gcZ,gcS] at r0 r1
   have FIN:=Lh (show DoneD w ((wr.setCell ⟨w.heap.size + 1,0,none⟩ (.slice A1 S1.length c1)).setCell ⟨w.heap.size + 1,1,none⟩ (.slice A1' C1.length c1')) D d D' d' S C A1 c1 A1' c1' S1 C1 from by
    rcases DD.out with h | h
    ·exact .inl (h.two RB.out _ _)
    ·exact .inr h)
   have RF:=Lh (RB.out.two (.slice A1 S1.length c1) (.slice A1' C1.length c1'))
   have hlt:((j:Int) < many∧(j:Int)=n)∨¬ (j:Int) < many:=by omega
   have hnn:¬ (n:Int) < (n:Int):=by omega
   rcases hlt with ⟨h1,h2⟩ | h1
   ·have h3:¬ (j:Int) < (n:Int):=by omega
    clear h2 hgo
    go_wp2
    have q0:=RF.out.cell 0
    have q1:=RF.out.cell 1
    simp only [gcZ,gcS] at q0 q1
    refine bodyPost_ret (v:=.tuple #[diskV A1 S1.length c1 A1' C1.length c1',.bool true]) ?_ rfl ⟨A1,c1,A1',c1',rfl,FIN.out,SM.out,below_two BR.out (by omega) _ _⟩
    clear x0 x1 r0 r1 f0 f1
    simp [results,Try.f19,go_sem,q0,q1]
   ·clear hgo
    go_wp2
    have q0:=RF.out.cell 0
    have q1:=RF.out.cell 1
    simp only [gcZ,gcS] at q0 q1
    refine bodyPost_ret (v:=.tuple #[diskV A1 S1.length c1 A1' C1.length c1',.bool true]) ?_ rfl ⟨A1,c1,A1',c1',rfl,FIN.out,SM.out,below_two BR.out (by omega) _ _⟩
    clear x0 x1 r0 r1 f0 f1
    simp [results,Try.f19,go_sem,q0,q1]
end Go.Proofs.Ytdbeiikaeccbhaa
