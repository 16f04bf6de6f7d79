/- Texts of the layers below, joined. -/
import Derived.Test.YtdbeiikaeccbhaaDa2
import Derived.BigQuiet
set_option maxRecDepth 100000
set_option maxHeartbeats 12800000
set_option linter.unusedVariables false
namespace Go.Proofs.Ytdbeiikaeccbhaa
open Go.RowKit
set_option maxRecDepth 100000
def ofTo (m:Nat) (l:List Int):Nat→List Int
 | 0=>none0 m
 | k + 1=>markL (ofTo m l k) (l.getD k 0).toNat
theorem ofTo_length (m:Nat) (l:List Int) (k:Nat):(ofTo m l k).length=pgs m:=by
 induction k with
 | zero=>simp [ofTo,none0]
 | succ k ih=>simp [ofTo,markL_length,ih]
theorem ofTo_byte (m:Nat) (l:List Int) (k:Nat):∀ z ∈ ofTo m l k,isByte z:=by
 induction k with
 | zero=>exact none0_byte m
 | succ k ih=>exact markL_byte ih _
theorem hasT_ofTo (m:Nat) (l:List Int) (k:Nat) (hk:k≤l.length) (h:∀ z ∈ l,0≤z∧z < m) (t:Nat):hasT (ofTo m l k) t=(l.take k).contains (t:Int):=by
 induction k with
 | zero=>simp [ofTo,hasT_none0]
 | succ k ih =>
  have hkl:k < l.length:=by omega
  have hz:=h l[k] (List.getElem_mem hkl)
  have hg:l.getD k 0=l[k]:=by simp [List.getD_eq_getElem?_getD,hkl]
  have e:(t=(l.getD k 0).toNat)↔((t:Int)=l[k]):=by rw [hg];omega
  unfold ofTo
  rw [hasT_mark _ _ _ (by rw [ofTo_length,hg];exact pgs_le (by omega)),ih (by omega),List.take_succ_eq_append_getElem hkl]
  have e1:(l.take k ++ [l[k]]).contains (t:Int)=((l.take k).contains (t:Int) || ((t:Int) == l[k])):=by
   simp only [List.contains_append,List.contains_cons,List.contains_nil,Bool.or_false]
  rw [e1]
  congr 1
  rw [Bool.eq_iff_iff,decide_eq_true_iff,beq_iff_eq]
  exact e
theorem ofTo_all {m:Nat} {l:List Int} (h:∀ z ∈ l,0≤z∧z < m):ofTo m l l.length=made m (fun t=>l.contains (t:Int)):=by
 refine (made_eq ⟨ofTo_length _ _ _,ofTo_byte _ _ _,fun t ht=>?_⟩ _ fun t _=>?_).symm
 ·rw [hasT_ofTo m l _ (Nat.le_refl _) h,List.take_length]
  rw [List.contains_eq_mem,decide_eq_false_iff_not]
  intro hm
  have:=h _ hm
  omega
 ·rw [hasT_ofTo m l _ (Nat.le_refl _) h,List.take_length]
theorem make_none (m:Nat) (h2:m≤16) (w:World) :
  (Instr.makeSlice 22 (.int .i64 (pgs m:Nat)) (.int .i64 (pgs m:Nat))).run Try.prog w=.ok (.slice (some ⟨w.heap.size,0,none⟩) (pgs m) (pgs m)) (w.alloc (.cells (ints .u8 (none0 m)).toArray 5)):=by
 obtain ⟨i0,hi0,hz0,hz1,hz2⟩:=info_parts byte_info
 have hp:pgs m≤2:=by unfold pgs;omega
 have hmk:=run_make1 (P:=Try.prog) 22 5 i0 _ Try.underlying22 hi0 hz0 hz1 rfl (pgs m) (by rw [hz2];omega) (by simp only [maxLen];omega) w
 have hrep:rep (pgs m) (.int .u8 0)=(ints .u8 (none0 m)).toArray:=by simp [rep,ints,none0]
 rwa [hrep] at hmk
theorem own_none (m:Nat) (h2:m≤16) (w:World) :
  (w.alloc (.cells (ints .u8 (none0 m)).toArray 5)).ownsRow w.heap.size 5 1 (.slice (some ⟨w.heap.size,0,none⟩) (pgs m) (pgs m)) (pgs m) (ints .u8 (none0 m)) :=
 (Blk.new w 5 (ints .u8 (none0 m))).owns (Nat.le_refl _) (by simp [ints,none0]) (Nat.le_trans (show pgs m≤2 by unfold pgs;omega) (by decide))
theorem grown_below {w0 w w':World} {B:Nat} {base:Nat} {t:TypeId} {A:Option Addr} {n c:Nat} {xs:List Value} (hb:Below B w0 w) (hB:B≤base) (ho:w.ownsRow base t 1 (.slice A n c) n xs) (hs:B≤w.heap.size) (hg:w.grownBy w' (Value.slice A n c).ownBlock):Below B w0 w' :=
 hb.grown hg hs (fun g e=>by have:=(ho.lt g e).1;omega)
theorem All_bad (n:Int) (w:World) (h:¬ (1≤n∧n≤16)) :
  Calls Try.prog 27 #[.int .i64 n] w fun e w'=>e=.returned (.tuple #[.slice none 0 0,.int .i64 2])∧w=w':=by
 have M:=Lh (many_no n w h)
 clear h
 go_enter Try.func27,Try.ntmps27
 go_wp2_with fail
 refine M.out.mono ?_
 rintro e w' ⟨rfl,rfl⟩
 go_wp2
 go_ret2
 exact ⟨rfl,rfl⟩
theorem All_ok (m:Nat) (w:World) (h1:1≤m) (h2:m≤16) :
  Calls Try.prog 27 #[.int .i64 (m:Int)] w (RowOut .u8 5 w (made m (fun _=>true)) 0):=by
 have M:=Lh (many_yes m w (by omega) (by omega))
 have P:=pages_any m w h1 h2
 have hmk:=make_none m h2 w
 have hown:=own_none m h2 w
 have hbel:Below w.heap.size w (w.alloc (.cells (ints .u8 (none0 m)).toArray 5)):=(Below.refl _ _).alloc (Nat.le_refl _) _
 have hpl:∀ t,t < m→t / 8 < pgs m:=fun t ht=>pgs_le ht
 have hlen:(made m (fun _=>true)).length=pgs m:=(made_isSet m _).len
 obtain ⟨w1,hw1⟩:∃ w1,w1=w.alloc (.cells (ints .u8 (none0 m)).toArray 5):=⟨_,rfl⟩
 rw [← hw1] at hmk hown hbel
 obtain ⟨p,hp⟩:∃ p,p=pgs m:=⟨_,rfl⟩
 rw [← hp] at P hmk hown hpl hlen
 have P:=Lh P
 have HL:=Lh hlen
 have HPL:=Lh hpl
 have OWN:=Lh hown
 have BEL:=Lh hbel
 clear hw1 hp hlen hpl hown hbel
 go_enter Try.func27,Try.ntmps27
 go_wp2_with fail
 refine M.out.mono ?_
 rintro e w' ⟨rfl,rfl⟩
 go_wp2_with fail
 refine P.out.mono ?_
 rintro e w' ⟨rfl,rfl⟩
 go_wp2_with fail
 go_loopw [13] (fun i wr=>∃ k:Nat,k≤m∧i=.int .i64 k∧wr.ownsRow w.heap.size 5 1 (.slice (some ⟨w.heap.size,0,none⟩) p p) p (ints .u8 (madeTo m (fun _=>true) k))∧Below w.heap.size w wr) (fun i _=>m - (intOf i).toNat)
 case atStart=>exact ⟨0,Nat.zero_le _,rfl,OWN.out,BEL.out⟩
 case round =>
  obtain ⟨k,hk,rfl,hown,hbel⟩:=hrel
  by_cases hkm:k < m
  ·have K:=mark_any w.heap.size _ p p _ k wr hown (madeTo_byte _ _ _) (by omega) (HPL.out k hkm)
   have K:=Lh K
   have O:=Lh hown
   have B:=Lh hbel
   clear hown hbel
   go_wp2_with fail
   refine K.out.mono ?_
   rintro e w2 ⟨rfl,hown2,hgr2⟩
   have O2:=Lh hown2
   have B2:=Lh (grown_below B.out (Nat.le_refl _) O.out B.out.size hgr2)
   clear hown2 hgr2
   go_wp2
   go_roundw
   case rel=>exact ⟨k + 1,by omega,by go_num,O2.out,B2.out⟩
   case measure=>simp [intOf];omega
  ·obtain rfl:k=m:=by omega
   have O:=Lh hown
   have B:=Lh hbel
   clear hown hbel
   go_wp2
   go_ret2
   refine ⟨some ⟨w.heap.size,0,none⟩,p,by rw [HL.out];rfl,?_,B.out⟩
   rw [HL.out]
   exact O.out
theorem All_any (n:Int) (w:World):Calls Try.prog 27 #[.int .i64 n] w (RowOut .u8 5 w (allB n) (manyE n)):=by
 unfold allB manyE
 by_cases h:1≤n∧n≤16
 ·rw [if_pos h,if_pos rfl]
  obtain ⟨m,rfl⟩:∃ m:Nat,n=m:=⟨n.toNat,by omega⟩
  rw [Int.toNat_natCast]
  exact All_ok m w (by omega) (by omega)
 ·rw [if_neg h,if_neg (by decide)]
  refine (All_bad n w h).mono ?_
  rintro e w' ⟨rfl,rfl⟩
  exact RowOut.nil _ _ _ _
theorem Of_bad (n:Int) (A:Option Addr) (j c:Nat) (w:World) (h:¬ (1≤n∧n≤16)) :
  Calls Try.prog 23 #[.int .i64 n,.slice A j c] w fun e w'=>e=.returned (.tuple #[.slice none 0 0,.int .i64 2])∧w=w':=by
 have M:=Lh (many_no n w h)
 clear h
 go_enter Try.func23,Try.ntmps23
 go_wp2_with fail
 refine M.out.mono ?_
 rintro e w' ⟨rfl,rfl⟩
 go_wp2
 go_ret2
 exact ⟨rfl,rfl⟩
theorem Of_ok (m:Nat) (A:Option Addr) (j c:Nat) (l:List Int) (w:World) (h:Arg w .i64 A j c l) (h1:1≤m) (h2:m≤16) :
  Calls Try.prog 23 #[.int .i64 (m:Int),.slice A j c] w (RowOut .u8 5 w (ofB m l) (ofE m l)):=by
 have M:=Lh (many_yes m w (by omega) (by omega))
 have P:=pages_any m w h1 h2
 have hmk:=make_none m h2 w
 have hown:=own_none m h2 w
 have hbel:Below w.heap.size w (w.alloc (.cells (ints .u8 (none0 m)).toArray 5)):=(Below.refl _ _).alloc (Nat.le_refl _) _
 have hpl:∀ t,t < m→t / 8 < pgs m:=fun t ht=>pgs_le ht
 have hyes:(∀ z ∈ l,0≤z∧z < (m:Int))→ofE m l=0∧ofB m l=ofTo m l l.length∧(ofTo m l l.length).length=pgs m:=fun hz=>by
  have e:ofE m l=0:=by unfold ofE;rw [if_pos ⟨by omega,hz⟩]
  refine ⟨e,?_,ofTo_length _ _ _⟩
  unfold ofB
  rw [if_pos e,ofTo_all hz,Int.toNat_natCast]
 have hnot:∀ k,k < l.length→¬ (0≤l.getD k 0∧l.getD k 0 < (m:Int))→ofE m l=2∧ofB m l=[]:=fun k hk hz=>by
  have e:ofE m l=2:=by
   unfold ofE
   rw [if_neg]
   intro hh
   refine hz (hh.2 _ ?_)
   rw [gtD,geE hk]
   simp
  refine ⟨e,?_⟩
  unfold ofB
  rw [if_neg (by rw [e];decide)]
 obtain ⟨w1,hw1⟩:∃ w1,w1=w.alloc (.cells (ints .u8 (none0 m)).toArray 5):=⟨_,rfl⟩
 rw [← hw1] at hmk hown hbel
 obtain ⟨p,hp⟩:∃ p,p=pgs m:=⟨_,rfl⟩
 rw [← hp] at P hmk hown hpl hyes
 have P:=Lh P
 have HPL:=Lh hpl
 have YES:=Lh hyes
 have NOT:=Lh hnot
 have OWN:=Lh hown
 have BEL:=Lh hbel
 have HA:=Lh h
 have hj:l.length=j:=h.len
 have hjc:j≤maxLen:=Nat.le_trans h.cap h.max
 unfold maxLen at hjc
 clear hw1 hp hyes hnot hpl hown hbel h
 subst hj
 go_enter Try.func23,Try.ntmps23
 go_wp2_with fail
 refine M.out.mono ?_
 rintro e w' ⟨rfl,rfl⟩
 go_wp2_with fail
 refine P.out.mono ?_
 rintro e w' ⟨rfl,rfl⟩
 go_wp2_with fail
 go_loopw [17] (fun i wr=>∃ k:Nat,k≤l.length∧i=.int .i64 k∧(∀ y,y < k→0≤l.getD y 0∧l.getD y 0 < (m:Int))∧wr.ownsRow w.heap.size 5 1 (.slice (some ⟨w.heap.size,0,none⟩) p p) p (ints .u8 (ofTo m l k))∧Below w.heap.size w wr) (fun i _=>l.length - (intOf i).toNat)
 case atStart=>exact ⟨0,Nat.zero_le _,rfl,fun y hy=>by omega,OWN.out,BEL.out⟩
 case round =>
  obtain ⟨k,hk,rfl,hall,hown,hbel⟩:=hrel
  have ALL:=Lh hall
  have O:=Lh hown
  have B:=Lh hbel
  by_cases hkm:k < l.length
  ·obtain ⟨b,o,rfl,hlt,hc⟩:=(HA.out.seq.below hbel).int hkm
   clear hown hbel hall
   have hst:ofTo m l (k + 1)=markL (ofTo m l k) (l.getD k 0).toNat:=rfl
   have NOTK:=Lh (NOT.out k hkm)
   obtain ⟨z,hz⟩:∃ z,z=l.getD k 0:=⟨_,rfl⟩
   rw [← hz] at hc hst NOTK
   have HST:=Lh hst
   have HZ:=Lh hz
   clear hst hz
   by_cases hzm:0≤z∧z < (m:Int)
   ·have T:=Lh (track_yes m z wr hzm.1 hzm.2)
    obtain ⟨t,rfl⟩:∃ t:Nat,z=t:=⟨z.toNat,by omega⟩
    have htm:t < m:=by omega
    have K:=Lh (mark_any w.heap.size _ p p _ t wr O.out (ofTo_byte _ _ _) (by omega) (HPL.out t htm))
    clear hzm
    go_wp2_with fail
    refine T.out.mono ?_
    rintro e w' ⟨rfl,rfl⟩
    go_wp2_with fail
    refine K.out.mono ?_
    rintro e w2 ⟨rfl,hown2,hgr2⟩
    have O2:=Lh hown2
    have B2:=Lh (grown_below B.out (Nat.le_refl _) O.out B.out.size hgr2)
    clear hown2 hgr2
    go_wp2
    go_roundw
    case rel =>
     refine ⟨k + 1,by omega,by go_num,fun y hy=>?_,by rw [HST.out];exact O2.out,B2.out⟩
     rcases Nat.lt_or_ge y k with h | h
     ·exact ALL.out y h
     ·obtain rfl:y=k:=by omega
      rw [← HZ.out]
      omega
    case measure=>simp [intOf];omega
   ·have T:=Lh (track_no m z wr hzm)
    have HN:=Lh (NOTK.out hzm)
    clear hzm NOTK
    go_wp2_with fail
    refine T.out.mono ?_
    rintro e w' ⟨rfl,rfl⟩
    go_wp2
    go_ret2
    rw [HN.out.1,HN.out.2]
    exact ⟨none,0,rfl,World.ownsRow_nil _ _ _ _,B.out⟩
  ·obtain rfl:k=l.length:=by omega
   have hy:=YES.out (fun z hz=>by
    obtain ⟨i,hi,rfl⟩:=List.getElem_of_mem hz
    have:=ALL.out i hi
    simpa [List.getD_eq_getElem?_getD,hi] using this)
   have HY:=Lh hy
   clear hown hbel hy hall
   go_wp2
   go_ret2
   rw [HY.out.1,HY.out.2.1]
   refine ⟨some ⟨w.heap.size,0,none⟩,p,by rw [HY.out.2.2];rfl,?_,B.out⟩
   rw [HY.out.2.2]
   exact O.out
theorem Of_any (n:Int) (A:Option Addr) (j c:Nat) (l:List Int) (w:World) (h:Arg w .i64 A j c l) :
  Calls Try.prog 23 #[.int .i64 n,.slice A j c] w (RowOut .u8 5 w (ofB n l) (ofE n l)):=by
 by_cases h1:1≤n∧n≤16
 ·obtain ⟨m,rfl⟩:∃ m:Nat,n=m:=⟨n.toNat,by omega⟩
  exact Of_ok m A j c l w h (by omega) (by omega)
 ·have e:ofE n l=2:=by unfold ofE;rw [if_neg (fun hh=>h1 hh.1)]
  have e2:ofB n l=[]:=by unfold ofB;rw [if_neg (by rw [e];decide)]
  rw [e,e2]
  refine (Of_bad n A j c w h1).mono ?_
  rintro e w' ⟨rfl,rfl⟩
  exact RowOut.nil _ _ _ _
set_option maxRecDepth 100000
theorem size_yes (n:Int) (w:World) (h1:1≤n) (h2:n≤16):Calls Try.prog 77 #[.int .i64 n] w fun e w'=>e=.returned (.bool true)∧w=w':=by
 go_enter Try.func77,Try.ntmps77
 go_wp2
 go_ret
 exact ⟨rfl,rfl⟩
theorem power_any (k:Nat) (w:World) (hk:k < 8):Calls Try.prog 78 #[.int .i64 (k:Int)] w fun e w'=>e=.returned (.int .i64 ((2 ^ k:Nat):Int))∧w=w':=by
 obtain ⟨P,hP⟩:∃ P,P=2 ^ k:=⟨_,rfl⟩
 rw [← hP]
 have HP:=Lh hP
 clear hP
 go_enter Try.func78,Try.ntmps78
 go_wp2
 go_loop [3,4] (fun n i=>∃ j:Nat,j≤k∧i=.int .i64 j∧n=.int .i64 ((2 ^ j:Nat):Int)) (fun _ i=>k - (intOf i).toNat)
 case atStart=>exact ⟨0,Nat.zero_le _,rfl,rfl⟩
 case round =>
  obtain ⟨j,hj,rfl,rfl⟩:=hrel
  have hp:2 ^ j < 2 ^ 8:=Nat.pow_lt_pow_right (by decide) (by omega)
  have hs:2 ^ (j + 1)=2 * 2 ^ j:=by rw [Nat.pow_succ,Nat.mul_comm]
  obtain ⟨y,hy⟩:∃ y,y=2 ^ j:=⟨_,rfl⟩
  rw [← hy] at hp hs ⊢
  have HS:=Lh hs
  have hp2:y < 256:=hp
  have HY:=Lh hy
  clear hs hy hp
  by_cases hjk:j < k
  ·go_wp2
   go_round
   case rel=>exact ⟨j + 1,by omega,by go_num,by rw [HS.out];go_num⟩
   case measure=>simp [intOf];omega
  ·obtain rfl:j=k:=by omega
   obtain rfl:P=y:=HP.out.trans HY.out.symm
   go_wp2
   go_ret
   exact ⟨rfl,rfl⟩
theorem in_bit {x i:Nat}:(x / 2 ^ i % 2 == 1)=x.testBit i:=by
 rw [Nat.testBit_eq_decide_div_mod_eq]
 rfl
theorem in_any (A:Option Addr) (n c:Nat) (l:List Int) (t:Nat) (w:World) (B:Nat) (h:Seq w B A (ints .u8 l)) (hl:l.length=n) (hb:∀ z ∈ l,isByte z) (ht:t < 16) (htn:t / 8 < n) :
  Calls Try.prog 56 #[.slice A n c,.int .i64 (t:Int)] w fun e w'=>e=.returned (.bool (hasT l t))∧∃ q,w'=w.drewN q:=by
 subst hl
 obtain ⟨b,o,rfl,hlt,hc⟩:=h.int htn
 rw [pg_cast hb] at hc
 have hx:=pg_lt hb (t / 8)
 have hv:=in_bit (x:=pg l (t / 8)) (i:=t % 8)
 have hE:hasT l t=(pg l (t / 8)).testBit (t % 8):=rfl
 rw [hE]
 have hpos:=Nat.two_pow_pos (t % 8)
 have G:=Lh (fun q=>(power_any (t % 8) (w.drewN q) (Nat.mod_lt _ (by decide))).mono fun e w'' (h:e=.returned (.int .i64 ((2 ^ (t % 8):Nat):Int))∧w.drewN q=w'')=>(⟨h.1,h.2.symm⟩:e=.returned (.int .i64 ((2 ^ (t % 8):Nat):Int))∧w''=w.drewN q))
 have hp:=pow_lt t
 obtain ⟨x,hxe⟩:∃ x,x=pg l (t / 8):=⟨_,rfl⟩
 obtain ⟨r,hre⟩:∃ r,r=x.testBit (t % 8):=⟨_,rfl⟩
 rw [← hxe] at hc hv hx ⊢
 rw [← hre] at hv ⊢
 obtain ⟨y,hye⟩:∃ y,y=2 ^ (t % 8):=⟨_,rfl⟩
 rw [← hye] at hv G hpos hp
 obtain ⟨d,hd⟩:∃ d,d=x / y:=⟨_,rfl⟩
 rw [← hd] at hv
 have hdi:(x:Int) / (y:Int)=(d:Int):=by rw [hd];simp
 have hdi2:(x:Int).tdiv (y:Int)=(d:Int):=by rw [Int.tdiv_eq_ediv_of_nonneg (by omega)];exact hdi
 have hd256:d < 256:=by rw [hd];exact Nat.lt_of_le_of_lt (Nat.div_le_self _ _) hx
 have hr2:((d:Int) % 2 == 1)=r:=by rw [← hv];rw [Bool.eq_iff_iff,beq_iff_eq,beq_iff_eq];omega
 have hr3:((d:Int).tmod 2 == 1)=r:=by rw [Int.tmod_eq_emod_of_nonneg (by omega)];exact hr2
 obtain ⟨k,hk⟩:∃ k:Nat,k=t / 8:=⟨_,rfl⟩
 obtain ⟨j,hj⟩:∃ j:Nat,j=t % 8:=⟨_,rfl⟩
 rw [← hk] at hc htn
 rw [← hj] at G
 have hk2:(t:Int) / 8=(k:Int):=by omega
 have hj2:(t:Int) % 8=(j:Int):=by omega
 have hy0:¬ (y:Int)=0:=by omega
 have hkl:(k:Int) < (l.length:Int):=by omega
 clear hxe hye hre h hb hE hv hd hdi hk hj hpos
 go_enter Try.func56,Try.ntmps56
 go_wp2
 go_quiet ((first | (go_at_call 78;exact Calls.quiet_of_same (G.out _))))
 go_wp2
 go_ret
 exact ⟨rfl,_,rfl⟩
theorem b_may_len (m:Nat) (A:Option Addr) (k c:Nat) (w:World) (h1:1≤m) (h2:m≤16) (hk:k≠pgs m) :
  Calls Try.prog 55 #[.int .i64 (m:Int),.slice A k c] w fun e w'=>e=.returned (.bool false)∧w=w':=by
 have M:=Lh (size_yes m w (by omega) (by omega))
 have hq:((m:Int) + 7) / 8=(pgs m:Int):=by unfold pgs;omega
 obtain ⟨p,hp⟩:∃ p,p=pgs m:=⟨_,rfl⟩
 rw [← hp] at hq hk
 have hne:¬ (k:Int)=p:=by omega
 clear hp
 go_enter Try.func55,Try.ntmps55
 go_wp2_with fail
 refine M.out.mono ?_
 rintro e w' ⟨rfl,rfl⟩
 go_wp2
 go_ret
 exact ⟨by first | rfl | simp,rfl⟩
theorem may_ok (m:Nat) (A:Option Addr) (k c:Nat) (l:List Int) (w:World) (h:Arg w .u8 A k c l) (hb:∀ z ∈ l,isByte z) (h1:1≤m) (h2:m≤16) (hk:k=pgs m) :
  Calls Try.prog 55 #[.int .i64 (m:Int),.slice A k c] w fun e w'=>e=.returned (.bool (decide (may m l)))∧∃ q,w'=w.drewN q:=by
 have M:=Lh (size_yes m w (by omega) (by omega))
 have hq:((m:Int) + 8 - 1) / 8=(k:Int):=by rw [hk];unfold pgs;omega
 have hk2:k≤2:=by rw [hk];unfold pgs;omega
 have hmk:m≤8 * k:=by rw [hk];unfold pgs;omega
 have hyes:(∀ u,m≤u→u < 8 * k→hasT l u=false)→decide (may m l)=true:=fun hh=>by
  rw [decide_eq_true_iff,may_isSet h1 hb]
  refine ⟨h.len.trans hk,hb,fun t ht=>?_⟩
  rcases Nat.lt_or_ge t (8 * k) with h' | h'
  ·exact hh t ht h'
  ·exact hasT_beyond _ (by rw [h.len];exact h')
 have hno:∀ u,m≤u→hasT l u=true→decide (may m l)=false:=fun u hu hh=>by
  rw [decide_eq_false_iff_not,may_isSet h1 hb]
  intro hs
  rw [hs.out u hu] at hh
  cases hh
 have IN:=Lh fun t q (ht:t < 8 * k)=>in_any A k c l t (w.drewN q) _ (h.seq.keep (w':=w.drewN q) fun _ _=>rfl) h.len hb (by omega) (by omega)
 have YES:=Lh hyes
 have NO:=Lh hno
 obtain ⟨R,hR⟩:∃ R,R=decide (may m l):=⟨_,rfl⟩
 rw [← hR] at YES NO ⊢
 clear hyes hno h hb hk hR
 go_enter Try.func55,Try.ntmps55
 go_wp2_with fail
 refine M.out.mono ?_
 rintro e w' ⟨rfl,rfl⟩
 go_wp2
 clear hq
 go_loopw [5] (fun i wr=>∃ j:Nat,m≤j∧j≤8 * k∧i=.int .i64 j∧(∀ u,m≤u→u < j→hasT l u=false)∧∃ q,wr=w.drewN q) (fun i _=>8 * k - (intOf i).toNat)
 case atStart=>exact ⟨m,Nat.le_refl _,hmk,rfl,fun u h1 h2=>by omega,0,rfl⟩
 case round =>
  obtain ⟨j,hmj,hj,rfl,hall,q,rfl⟩:=hrel
  have ALL:=Lh hall
  clear hall
  by_cases hjk:j < 8 * k
  ·have T:=IN.out j q hjk
   obtain ⟨r,hr⟩:∃ r,r=hasT l j:=⟨_,rfl⟩
   rw [← hr] at T
   have HR:=Lh hr
   have T:=Lh T
   clear hr
   cases r with
   | true =>
    have HN:=Lh (NO.out j hmj HR.out.symm)
    go_wp2_with fail
    refine T.out.mono ?_
    rintro e w' ⟨rfl,q2,rfl⟩
    go_wp2
    go_ret
    rw [HN.out]
    exact ⟨rfl,q + q2,by simp⟩
   | false =>
    go_wp2_with fail
    refine T.out.mono ?_
    rintro e w' ⟨rfl,q2,rfl⟩
    go_wp2
    go_roundw
    case rel =>
     refine ⟨j + 1,by omega,by omega,by go_num,fun u hu hu2=>?_,q + q2,by simp⟩
     rcases Nat.lt_or_ge u j with h' | h'
     ·exact ALL.out u hu h'
     ·obtain rfl:u=j:=by omega
      exact HR.out.symm
    case measure=>simp [intOf];omega
  ·obtain rfl:j=8 * k:=by omega
   have HY:=Lh (YES.out ALL.out)
   go_wp2
   go_ret
   rw [HY.out]
   exact ⟨rfl,q,rfl⟩
end Go.Proofs.Ytdbeiikaeccbhaa
