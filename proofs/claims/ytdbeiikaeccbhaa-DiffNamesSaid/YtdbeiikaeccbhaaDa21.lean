/- Texts of the layers below, joined. -/
import Derived.Test.YtdbeiikaeccbhaaDa20
import Derived.Laws.BitsAllLaws
import Derived.Laws.ShiftsVarLaws
import Derived.Lib.QuoteBits
import Derived.Laws.CopyRow
import Derived.StillTailTactics
import Derived.Deep.RegionWith
set_option maxRecDepth 100000
set_option maxHeartbeats 12800000
set_option linter.unusedVariables false
namespace Go.Proofs.Ytdbeiikaeccbhaa
open Go.RowKit
theorem and_low (m:Nat) (hm:m < 4294967296):bits .and .u64 (m:Int) 4294967295=(m:Int):=by
 have h:=u64_and_nat m 4294967295 (by omega) (by omega)
 have e:m &&& 4294967295=m:=by
  have:=Nat.and_two_pow_sub_one_eq_mod m 32
  rw [show (2:Nat) ^ 32 - 1=4294967295 from rfl,show (2:Nat) ^ 32=4294967296 from rfl] at this
  rw [this,Nat.mod_eq_of_lt hm]
 rw [e] at h
 exact h
theorem wrap_u64 (m:Nat) (hm:m < 4294967296):IntKind.u64.wrap (m:Int)=(m:Int):=by
 simp [IntKind.wrap,IntKind.bits,IntKind.signed]
 omega
theorem mul64_any (m:Nat) (hm:m < 4294967296) (w:World):Calls Try.prog 102 #[.int .u64 1,.int .u64 (m:Int)] w fun e w'=>e=.returned (.tuple #[.int .u64 0,.int .u64 (m:Int)])∧w'=w:=by
 have h1:bits .and .u64 1 4294967295=1:=and_low 1 (by decide)
 have h5:bits .and .u64 0 4294967295=0:=and_low 0 (by decide)
 have h2:=and_low m hm
 have h3:(m:Int) / 4294967296=0:=by omega
 have h4:=wrap_u64 m hm
 have h6:IntKind.u64.wrap 0=0:=wrap_u64 0 (by decide)
 go_enter Try.func102,Try.ntmps102
 go_wp2
 go_ret2
 exact ⟨rfl,rfl⟩
theorem mul_any (m:Nat) (hm:m < 4294967296) (w:World):Calls Try.prog 89 #[.int .u64 1,.int .u64 (m:Int)] w fun e w'=>e=.returned (.tuple #[.int .u64 0,.int .u64 (m:Int)])∧w'=w:=by
 have MU:=Lh (mul64_any m hm w)
 have h4:=wrap_u64 m hm
 go_enter Try.func89,Try.ntmps89
 go_wp2_with fail
 refine MU.out.mono ?_
 rintro e w' ⟨rfl,rfl⟩
 go_wp2
 go_ret2
 exact ⟨rfl,rfl⟩
def onesL (n k:Nat):List Int:=List.replicate k 1 ++ List.replicate (n - k) 0
theorem onesL_len {n k:Nat} (h:k≤n):(onesL n k).length=n:=by simp [onesL];omega
theorem onesL_all (n:Nat):onesL n n=List.replicate n 1:=by simp [onesL]
theorem onesL_take {n k:Nat} (h:k≤n):(onesL n k).take k=List.replicate k 1:=by simp [onesL]
theorem onesL_put {n k j:Nat} (h:k + j≤n):(onesL n k).take k ++ List.replicate j 1 ++ (onesL n k).drop (k + j)=onesL n (k + j):=by
 rw [onesL_take (by omega)]
 unfold onesL
 rw [List.replicate_append_replicate]
 congr 1
 rw [List.drop_append,List.drop_eq_nil_of_le (by simp)]
 simp
 omega
theorem run_copy_ones (w:World) (ty:TypeId) (g n k c1 c2:Nat) (h:Blk w g 5 (ints .u8 (onesL n k))) (hk:k≤n) :
  ∃ w',(Builtin.copy_ #[22,22] ty #[.slice (some ⟨g,k,none⟩) (n - k) c1,.slice (some ⟨g,0,none⟩) k c2]).run Try.prog w=.ok (.int .i64 ((min k (n - k):Nat):Int)) w'∧Blk w' g 5 (ints .u8 (onesL n (k + min k (n - k))))∧w.grownBy w' (some g):=by
 obtain ⟨j,hj⟩:∃ j,j=min k (n - k):=⟨_,rfl⟩
 have hj1:j≤k:=by omega
 have hj2:k + j≤n:=by omega
 have hlen:(ints .u8 (List.replicate j 1)).length=j:=by simp [ints_length]
 have hr:=run_copy_row (P:=Try.prog) w 22 22 ty 5 g k (n - k) c1 ⟨g,0,none⟩ k c2 (ints .u8 (onesL n k)).toArray 5 (ints .u8 (List.replicate j 1)) Try.underlying22 byte_size h (by rw [hlen,hj]) (fun i v hv=>by
  have hi:i < j:=by
   have:=(List.getElem?_eq_some_iff.1 hv).1
   rwa [hlen] at this
  have e:(⟨g,0,none⟩:Addr).add i=⟨g,0 + i,none⟩:=by unfold Addr.add;split <;> simp_all
  rw [e,Nat.zero_add,h.cell i,← hv]
  rw [ints_getD .u8 _ i (by rw [onesL_len hk];omega),ints_getD .u8 _ i (by simpa using hi)]
  congr 2
  simp [onesL,List.getD_eq_getElem?_getD,hi,List.getElem?_append_left (show i < (List.replicate k (1:Int)).length by simp;omega),show i < k by omega])
  (by rw [hlen];simp [ints_length,onesL_len hk];omega) (ints_one _ _)
 rw [hlen] at hr
 rw [← hj]
 refine ⟨_,hr,?_,⟨rfl,rfl,rfl,by simp,fun k' _ hk'=>setRow_other w g k' _ (fun e=>hk' (by rw [e]))⟩⟩
 have e:(ints .u8 (onesL n k)).toArray.toList.take k ++ ints .u8 (List.replicate j 1) ++ (ints .u8 (onesL n k)).toArray.toList.drop (k + j)=ints .u8 (onesL n (k + j)):=by
  rw [← onesL_put hj2]
  unfold ints
  simp only [List.map_append,List.map_take,List.map_drop]
 have hs:=setRow_heap w g (ints .u8 (onesL n k)).toArray ((ints .u8 (onesL n k)).toArray.toList.take k ++ ints .u8 (List.replicate j 1) ++ (ints .u8 (onesL n k)).toArray.toList.drop (k + j)).toArray 5 (0,0) h
 unfold Blk
 rw [hs,e]
theorem run_copy_first (w:World) (ty:TypeId) (g n gx:Nat) (h:Blk w g 5 (ints .u8 (onesL n 0))) (hx:Blk w gx 5 [.int .u8 1]) :
  ∃ w',(Builtin.copy_ #[22,22] ty #[.slice (some ⟨g,0,none⟩) n n,.slice (some ⟨gx,0,none⟩) 1 1]).run Try.prog w=.ok (.int .i64 ((min 1 n:Nat):Int)) w'∧Blk w' g 5 (ints .u8 (onesL n (min 1 n)))∧w.grownBy w' (some g):=by
 obtain ⟨j,hj⟩:∃ j,j=min 1 n:=⟨_,rfl⟩
 have hj2:0 + j≤n:=by omega
 have hlen:(ints .u8 (List.replicate j 1)).length=j:=by simp [ints_length]
 have hr:=run_copy_row (P:=Try.prog) w 22 22 ty 5 g 0 n n ⟨gx,0,none⟩ 1 1 (ints .u8 (onesL n 0)).toArray 5 (ints .u8 (List.replicate j 1)) Try.underlying22 byte_size h (by rw [hlen,hj]) (fun i v hv=>by
  have hi:i < j:=by
   have:=(List.getElem?_eq_some_iff.1 hv).1
   rwa [hlen] at this
  obtain rfl:i=0:=by omega
  have e:(⟨gx,0,none⟩:Addr).add 0=⟨gx,0 + 0,none⟩:=by unfold Addr.add;split <;> simp_all
  rw [e,hx.cell 0,← hv]
  rw [ints_getD .u8 _ 0 (by simpa using hi)]
  simp [List.getD_eq_getElem?_getD,hi])
  (by rw [hlen];simp [ints_length,onesL_len];omega) (ints_one _ _)
 rw [hlen] at hr
 rw [← hj]
 refine ⟨_,hr,?_,⟨rfl,rfl,rfl,by simp,fun k' _ hk'=>setRow_other w g k' _ (fun e=>hk' (by rw [e]))⟩⟩
 have e:(ints .u8 (onesL n 0)).toArray.toList.take 0 ++ ints .u8 (List.replicate j 1) ++ (ints .u8 (onesL n 0)).toArray.toList.drop (0 + j)=ints .u8 (onesL n j):=by
  have h2:=onesL_put hj2
  rw [Nat.zero_add] at h2
  rw [← h2,Nat.zero_add]
  unfold ints
  simp only [List.map_append,List.map_take,List.map_drop]
 have hs:=setRow_heap w g (ints .u8 (onesL n 0)).toArray ((ints .u8 (onesL n 0)).toArray.toList.take 0 ++ ints .u8 (List.replicate j 1) ++ (ints .u8 (onesL n 0)).toArray.toList.drop (0 + j)).toArray 5 (0,0) h
 unfold Blk
 rw [hs,e]
theorem makeN (n:Nat) (hn:n≤1000) (w:World):(Instr.makeSlice 22 (.int .i64 (n:Int)) (.int .i64 (n:Int))).run Try.prog w=.ok (.slice (some ⟨w.heap.size,0,none⟩) n n) (w.alloc (.cells (ints .u8 (onesL n 0)).toArray 5)):=by
 obtain ⟨i0,hi0,hz0,hz1,hz2⟩:=info_parts byte_info
 have hml:(1000:Nat)≤maxLen:=by decide
 have:=run_make1 (P:=Try.prog) 22 5 i0 _ Try.underlying22 hi0 hz0 hz1 rfl n (by rw [hz2];omega) (by omega) w
 rw [this]
 simp [rep,onesL,ints]
theorem repeat_any (n gx:Nat) (hn:n≤1000) (w:World) (hx:Blk w gx 5 [.int .u8 1]) :
  Calls Try.prog 67 #[.slice (some ⟨gx,0,none⟩) 1 1,.int .i64 (n:Int)] w fun e w'=>∃ g,e=.returned (.slice (some ⟨g,0,none⟩) n n)∧w'.ownsRow w.heap.size 5 1 (.slice (some ⟨g,0,none⟩) n n) n (ints .u8 (List.replicate n 1))∧Below w.heap.size w w':=by
 have MU:=Lh (mul_any n (by omega) w)
 have hmk:=makeN n hn w
 obtain ⟨w1,hw1⟩:∃ w1,w1=w.alloc (.cells (ints .u8 (onesL n 0)).toArray 5):=⟨_,rfl⟩
 have hg1:Blk w1 w.heap.size 5 (ints .u8 (onesL n 0)):=by rw [hw1];exact Blk.new w 5 _
 have hb1:Below w.heap.size w w1:=by rw [hw1];exact (Below.refl _ _).alloc (Nat.le_refl _) _
 rw [← hw1] at hmk
 obtain ⟨w2,hc2,hg2,hgr2⟩:=run_copy_first w1 3 w.heap.size n gx hg1 (hx.below hb1 hx.lt)
 have hb2:Below w.heap.size w w2:=hb1.grown hgr2 hb1.size (fun g e=>by cases e;exact Nat.le_refl _)
 have hw3:=wrap_u64 n (by omega)
 have hn0:¬ (n:Int) < 0:=by omega
 have hwi:IntKind.i64.wrap (n:Int)=(n:Int):=Lib.wrap_i64_small n (by omega)
 have hbig:decide ((9223372036854775807:Int) < (n:Int))=false:=decide_eq_false (by omega)
 have hbig2:¬ (9223372036854775807:Int) < (n:Int):=by omega
 obtain ⟨j0,hj0⟩:∃ j0,j0=min 1 n:=⟨_,rfl⟩
 rw [← hj0] at hc2 hg2
 have HJ0:=Lh hj0
 have HG:=Lh hg2
 have HB:=Lh hb2
 clear hg1 hb1 hg2 hgr2 hb2 hx hw1 hj0
 go_enter Try.func67,Try.ntmps67
 go_wp2_with fail
 refine MU.out.mono ?_
 rintro e w' ⟨rfl,rfl⟩
 go_wp2
 have hj1:j0=min 1 n:=HJ0.out
 go_loopw [8] (fun i wr=>∃ k:Nat,k≤n∧(n=0∨1≤k)∧i=.int .i64 k∧Blk wr w'.heap.size 5 (ints .u8 (onesL n k))∧Below w'.heap.size w' wr) (fun i _=>n - (intOf i).toNat)
 case atStart=>exact ⟨j0,by omega,by omega,rfl,HG.out,HB.out⟩
 case round =>
  obtain ⟨k,hk,hk1,rfl,hg,hb⟩:=hrel
  have hki0:(0:Int)≤(k:Int):=by omega
  by_cases hkn:k < n
  ·have hki:(k:Int) < (n:Int):=by omega
   obtain ⟨w5,hc5,hg5,hgr5⟩:=run_copy_ones wr.drew 3 w'.heap.size n k (n - k) n hg hk
   obtain ⟨j,hj⟩:∃ j,j=min k (n - k):=⟨_,rfl⟩
   rw [← hj] at hc5 hg5
   have hwk:IntKind.i64.wrap ((k:Int) + (j:Int))=(k:Int) + (j:Int):=Lib.wrap_i64_small (k + j) (by omega)
   have G5:=Lh hg5
   have B5:=Lh (show Below w'.heap.size w' w5 from (below_drewN hb 1).grown hgr5 hb.size (fun g e=>by cases e;exact Nat.le_refl _))
   have HJ:=Lh hj
   clear hg hb hg5 hgr5 hj hc2 hmk
   go_wp2
   go_region
   go_wp2
   go_roundw
   case rel =>
    have hj:=HJ.out
    exact ⟨k + j,by omega,by omega,by go_num,G5.out,B5.out⟩
   case measure =>
    have hj:=HJ.out
    simp [intOf]
    omega
  ·obtain rfl:n=k:=by omega
   have ho:wr.ownsRow w'.heap.size 5 1 (.slice (some ⟨w'.heap.size,0,none⟩) n n) n (ints .u8 (onesL n n)):=hg.owns (Nat.le_refl _) (by rw [ints_length,onesL_len (Nat.le_refl _)]) (Nat.le_trans hn (by decide))
   rw [onesL_all] at ho
   have OO:=Lh ho
   have BB:=Lh hb
   clear hg hb ho hc2 hmk
   go_wp2
   go_ret
   exact ⟨_,rfl,OO.out,BB.out⟩
theorem pflush_any (A:Option Addr) (n c:Nat) (A':Option Addr) (n' c':Nat) (S:List Sec) (C:List Pnd) (w:World) (hq:Dsk w A n c A' n' c' S C) (hs:SmallD S C) :
  Calls Try.prog 38 #[diskV A n c A' n' c'] w (DiskOut w (flS S C) [] (chkD S C)):=by
 obtain ⟨x1,x2,hbel⟩:=boxes2 w A n c A' n' c' none 0 0 none 0 0
 have hsz:((w.alloc (.cells #[.slice A n c,.slice A' n' c'] 56)).alloc (.cells #[.slice none 0 0,.slice none 0 0] 56)).heap.size=w.heap.size + 2:=by simp
 have M:=check_any A n c A' n' c' S C _ (hq.below hbel)
 have X1:=Lh x1
 have X2:=Lh x2
 have BEL:=Lh hbel
 have HSZ:=Lh hsz
 have c0:=x1.cell 0
 have c1:=x1.cell 1
 simp only [gcZ,gcS] at c0 c1
 have hl':=hq.pnds.len
 have hn':n'≤1000:=by rw [← hl'];have:=hs.pnds;omega
 unfold flS
 rw [hl']
 clear hl'
 obtain ⟨F,hF⟩:∃ F,F=List.replicate n' (1:Int):=⟨_,rfl⟩
 have hfb:∀ z ∈ F,isByte z:=fun z hz=>by
  rw [hF] at hz
  rw [List.eq_of_mem_replicate hz]
  exact ⟨by decide,by decide⟩
 rw [← hF]
 cases hR:mayD S C with
 | true =>
  have hE:chkD S C=0:=by unfold chkD;rw [hR];rfl
  rw [hE] at M
  have M:=Lh M
  have BH:=Lh fun w3 g hx hy=>settled_any A n c A' n' c' S C (some ⟨g,0,none⟩) n' n' F w3 hx hs hR hy hfb
  have hres:crS S C F=behindS S C F:=by unfold crS;rw [if_pos hR]
  have hlen:(behindS S C F).length=n:=by unfold behindS;rw [behindK_len,hq.secs.len]
  rw [hE,hres]
  have HQ:=Lh hq
  have HL:=Lh hlen
  obtain ⟨RS,hRS⟩:∃ RS,RS=behindS S C F:=⟨_,rfl⟩
  rw [← hRS] at BH HL ⊢
  clear x1 x2 hbel hsz hq hs hR hE hres hlen hRS hfb
  go_enter Try.func38,Try.ntmps38
  go_wp2_with fail
  refine M.out.mono ?_
  rintro e w3 ⟨rfl,hb3⟩
  have x1:=X1.out.below hb3 (by have:=HSZ.out;omega)
  have x2:=X2.out.below hb3 (by have:=HSZ.out;omega)
  have d0:=x1.cell 0
  have d1:=x1.cell 1
  simp only [gcZ,gcS] at d0 d1
  have R2:=Lh x2
  have B3:=Lh (BEL.out.trans (hb3.mono (by have:=HSZ.out;omega)))
  have hz3:w.heap.size + 2≤w3.heap.size:=by have h1:=x2.lt;omega
  have HFE:=Lh hF
  have X1':=Lh (X1.out.below hb3 (by have:=HSZ.out;omega))
  clear hb3 x1 x2 c0 c1 M hF
  go_upto_region 4 with fail
  have hb34:Below w3.heap.size w3 (w3.alloc (.cells #[.int .u8 1] 5)):=(Below.refl _ _).alloc (Nat.le_refl _) _
  have LX:=Lh (Blk.new w3 5 [.int .u8 1])
  have B34:=Lh hb34
  have l0:=(X1'.out.below hb34 X1'.out.lt).cell 0
  have l1:=(X1'.out.below hb34 X1'.out.lt).cell 1
  simp only [gcZ,gcS] at l0 l1
  clear hb34
  go_region_with ((first
   | (go_at_call 67;refine (repeat_any n' w3.heap.size hn' _ (by first | exact LX.out | exact LX.out.below (below_drewN (Below.refl _ _) 1) LX.out.lt)).mono ?_;rintro e w6 ⟨gR,rfl,hownR,hbR⟩;have hb6:Below w3.heap.size w3 w6:=by first | exact B34.out.trans (hbR.mono B34.out.size) | exact (B34.out.trans ((below_drewN (Below.refl _ _) 1).mono B34.out.size)).trans (hbR.mono (Nat.le_trans B34.out.size (Nat.le_refl _)))
      have d60:=(X1'.out.below hb6 X1'.out.lt).cell 0;have d61:=(X1'.out.below hb6 X1'.out.lt).cell 1;simp only [gcZ,gcS] at d60 d61;rw [← HFE.out] at hownR;have BH6:=Lh (BH.out w6 gR ((HQ.out.below B3.out).below hb6) (Arg.own hownR));have B6:=Lh hb6;clear hownR hbR hb6)
   | (go_at_call 41;refine BH6.out.mono ?_;rintro e w4 ⟨B,d,rfl,hown,hb4⟩;have x2:=(R2.out.below B6.out R2.out.lt).below hb4 (Nat.lt_of_lt_of_le R2.out.lt B6.out.size);have e0:=x2.cell 0;have e1:=x2.cell 1;have g0:=x2.free 0;have g1:=x2.free 1;simp only [gcZ,gcS] at e0 e1;have Q2:=Lh x2;have hz6:w3.heap.size≤w6.heap.size:=B6.out.size;have O4:=Lh (hown.lower (Nat.le_trans hz3 hz6));have B4:=Lh ((B3.out.trans (B6.out.mono B3.out.size)).trans (hb4.mono (Nat.le_trans B3.out.size hz6)));clear x2 hown hb4)))
  all_goals (
   go_wp2
   have z:=Q2.out.two (.slice B n d) (.slice none 0 0)
   have z0:=z.cell 0
   have z1:=z.cell 1
   simp only [gcZ,gcS] at z0 z1
   have O9:=O4.out.two Q2.out (.slice B n d) (.slice none 0 0)
   have hl:=HL.out
   refine bodyPost_ret (v:=.tuple #[diskV B n d none 0 0,.int .i64 0]) ?_ rfl ⟨B,d,none,0,by rw [hl];rfl,by rw [hl];exact O9.lower (by omega),below_two B4.out (by omega) _ _⟩
   clear e0 e1 g0 g1
   simp [results,Try.f38,go_sem,z0,z1])
 | false =>
  have hE:chkD S C=8:=by unfold chkD;rw [hR];rfl
  rw [hE] at M
  have M:=Lh M
  have hres:crS S C F=[]:=by unfold crS;rw [hR];rfl
  rw [hE,hres]
  clear x1 x2 hbel hsz hq hs hR hE hres hfb
  go_enter Try.func38,Try.ntmps38
  go_wp2_with fail
  refine M.out.mono ?_
  rintro e w3 ⟨rfl,hb3⟩
  have x2:=X2.out.below hb3 (by have:=HSZ.out;omega)
  have e0:=x2.cell 0
  have e1:=x2.cell 1
  have g0:=x2.free 0
  have g1:=x2.free 1
  simp only [gcZ,gcS] at e0 e1
  have R2:=Lh x2
  have B3:=Lh (BEL.out.trans (hb3.mono (by have:=HSZ.out;omega)))
  clear hb3 x2 c0 c1
  go_wp2
  have z:=R2.out.two (.slice none 0 0) (.slice none 0 0)
  have z0:=z.cell 0
  have z1:=z.cell 1
  simp only [gcZ,gcS] at z0 z1
  refine bodyPost_ret (v:=.tuple #[diskV none 0 0 none 0 0,.int .i64 8]) ?_ rfl ⟨none,0,none,0,rfl,OwnDsk.nil _ _,below_two B3.out (by omega) _ _⟩
  clear e0 e1 g0 g1
  simp [results,Try.f38,go_sem,z0,z1]
theorem dsk_does:DskDoes where
 check:=fun A n c A' n' c' S C w hq _=>check_any A n c A' n' c' S C w hq
 write:=fun A n c A' n' c' S C t Ab nb cb b w hq hs hb hby hbl=>pwrite_any A n c A' n' c' S C t Ab nb cb b w hq hs hb hby hbl
 read:=fun A n c A' n' c' S C t w hq hs=>pread_any A n c A' n' c' S C t w hq hs
 flush:=fun A n c A' n' c' S C w hq hs=>pflush_any A n c A' n' c' S C w hq hs
 crash:=fun A n c A' n' c' S C Af nf cf F w hq hs hf hfb _=>pcrash_any A n c A' n' c' S C Af nf cf F w hq hs hf hfb
 twin:=fun A n c A' n' c' S C w hq hs=>ptwin_any A n c A' n' c' S C w hq hs
end Go.Proofs.Ytdbeiikaeccbhaa
