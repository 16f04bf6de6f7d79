/- Texts of the layers below, joined. -/
import Derived.Test.YtdbeiikaeccbhaaDa5
import Derived.Test.YtdbeiikaeccbhaaDa6
set_option maxRecDepth 100000
set_option maxHeartbeats 12800000
set_option linter.unusedVariables false
namespace Go.Proofs.Ytdbeiikaeccbhaa
open Go.RowKit
set_option maxRecDepth 100000
def bools (l:List Bool):List Value:=l.map Value.bool
theorem bools_getD (l:List Bool) (j:Nat) (h:j < l.length):(bools l)[j]?=some (.bool (l.getD j false)):=by simp [bools,h]
theorem bools_app (l:List Bool) (x:Bool):bools (l ++ [x])=bools l ++ [.bool x]:=by simp [bools]
theorem bools_one (l:List Bool):∀ u ∈ bools l,u.oneCell'=true:=by
 intro u hu
 obtain ⟨z,_,rfl⟩:=List.mem_map.1 hu
 rfl
theorem bool_info:(Try.prog.info? 4).map (fun i=>(i.zero,i.size,i.bytes))=some (some (.bool false),1,1):=by kernel_rfl
def OneRow (k:IntKind) (t:TypeId) (w:World) (zs:List Int) (e:Ending) (w':World):Prop :=
 ∃ A c,e=.returned (.slice A zs.length c)∧w'.ownsRow w.heap.size t 1 (.slice A zs.length c) zs.length (ints k zs)∧Below w.heap.size w w'
theorem rMade_any (m:Nat) (A:Option Addr) (c:Nat) (bs:List Bool) (w:World) (h:Seq w w.heap.size A (bools bs)) (hl:bs.length=m) (h1:1≤m) (h2:m≤16) :
  Calls Try.prog 82 #[.int .i64 (m:Int),.slice A m c] w (OneRow .u8 5 w (made m (fun t=>bs.getD t false))):=by
 have hmk:=make_none m h2 w
 have hown:=own_none m h2 w
 have hbel:Below w.heap.size w (w.alloc (.cells (ints .u8 (none0 m)).toArray 5)):=(Below.refl _ _).alloc (Nat.le_refl _) _
 have hpl:∀ t,t < m→t / 8 < pgs m:=fun t ht=>pgs_le ht
 have hlen:(made m (fun t=>bs.getD t false)).length=pgs m:=(made_isSet m _).len
 have hq:((m:Int) + 8 - 1) / 8=(pgs m:Int):=by unfold pgs;omega
 have hp2:pgs m≤2:=by unfold pgs;omega
 obtain ⟨w1,hw1⟩:∃ w1,w1=w.alloc (.cells (ints .u8 (none0 m)).toArray 5):=⟨_,rfl⟩
 rw [← hw1] at hmk hown hbel
 obtain ⟨p,hp⟩:∃ p,p=pgs m:=⟨_,rfl⟩
 rw [← hp] at hmk hown hpl hlen hq hp2
 obtain ⟨f,hf⟩:∃ f:Nat→Bool,f=fun t=>bs.getD t false:=⟨_,rfl⟩
 rw [← hf] at hlen ⊢
 have HF:=Lh hf
 have HL:=Lh hlen
 have HPL:=Lh hpl
 have OWN:=Lh hown
 have BEL:=Lh hbel
 have H:=Lh h
 have hml:(p:Int)≤2:=by omega
 clear hw1 hp hlen hpl hown hbel h hf
 go_enter Try.func82,Try.ntmps82
 go_wp2
 clear hq
 go_loopw [6] (fun i wr=>∃ k:Nat,k≤m∧i=.int .i64 k∧wr.ownsRow w.heap.size 5 1 (.slice (some ⟨w.heap.size,0,none⟩) p p) p (ints .u8 (madeTo m f k))∧Below w.heap.size w wr) (fun i _=>m - (intOf i).toNat)
 case atStart=>exact ⟨0,Nat.zero_le _,rfl,OWN.out,BEL.out⟩
 case round =>
  obtain ⟨k,hk,rfl,hown,hbel⟩:=hrel
  have O:=Lh hown
  have B:=Lh hbel
  by_cases hkm:k < m
  ·have hst:madeTo m f (k + 1)=if f k then markL (madeTo m f k) k else madeTo m f k:=rfl
   obtain ⟨ba,oa,rfl,hba,hac⟩:=(H.out.below hbel) k _ (bools_getD bs k (by omega))
   rw [show bs.getD k false=f k by rw [HF.out]] at hac
   obtain ⟨r,hr⟩:∃ r,r=f k:=⟨_,rfl⟩
   rw [← hr] at hac hst
   have HST:=Lh hst
   have MB:=Lh (madeTo_byte m f k)
   have MADD:=Lh (mark_add (f:=f) hkm)
   clear hst hr hown hbel
   cases r with
   | false =>
    go_wp2
    go_roundw
    case rel=>exact ⟨k + 1,by omega,by go_num,by rw [HST.out];exact O.out,B.out⟩
    case measure=>simp [intOf];omega
   | true =>
    have htn:=HPL.out k hkm
    obtain ⟨g,hg,hbg,hc,hf,hset⟩:=owns_int_at O.out htn
    cases hg
    rw [pg_cast MB.out] at hc
    have hp:=pow_lt k
    have hx:=pg_lt MB.out (k / 8)
    have hE:markL (madeTo m f k) k=(madeTo m f k).set (k / 8) ((pg (madeTo m f k) (k / 8) + 2 ^ (k % 8):Nat):Int):=by unfold markL;rw [MADD.out]
    have hxy:pg (madeTo m f k) (k / 8) + 2 ^ (k % 8) < 256:=by rw [← MADD.out];exact or_byteB hx hp
    have T:=power_any (k % 8) wr.drew (Nat.mod_lt _ (by decide))
    have hset:=hset ((pg (madeTo m f k) (k / 8) + 2 ^ (k % 8):Nat):Int)
    rw [← hE] at hset
    obtain ⟨L2,hL2⟩:∃ L2,L2=markL (madeTo m f k) k:=⟨_,rfl⟩
    rw [← hL2] at hset HST
    obtain ⟨x,hxe⟩:∃ x,x=pg (madeTo m f k) (k / 8):=⟨_,rfl⟩
    obtain ⟨y,hye⟩:∃ y,y=2 ^ (k % 8):=⟨_,rfl⟩
    rw [← hxe,← hye] at hset hxy
    rw [← hxe] at hc
    rw [← hye] at T
    have hset2:(wr.drew.setCell ⟨w.heap.size,k / 8,none⟩ (.int .u8 ((x:Int) + (y:Int)))).ownsRow w.heap.size 5 1 (.slice (some ⟨w.heap.size,0,none⟩) p p) p (ints .u8 L2):=hset
    obtain ⟨d,hd⟩:∃ d:Nat,d=k / 8:=⟨_,rfl⟩
    obtain ⟨j,hj⟩:∃ j:Nat,j=k % 8:=⟨_,rfl⟩
    rw [← hd] at hc htn hf hset2
    rw [← hj] at T
    have hd2:(k:Int) / 8=(d:Int):=by omega
    have hj2:(k:Int) % 8=(j:Int):=by omega
    have hj3:(k:Int).tmod 8=(j:Int):=by rw [Int.tmod_eq_emod_of_nonneg (by omega)];exact hj2
    have hd3:(k:Int).tdiv 8=(d:Int):=by rw [Int.tdiv_eq_ediv_of_nonneg (by omega)];exact hd2
    have T:=Lh (T.mono fun e w'' (h:e=.returned (.int .i64 (y:Int))∧wr.drew=w'')=>(⟨h.1,h.2.symm⟩:e=.returned (.int .i64 (y:Int))∧w''=wr.drew))
    have SET:=Lh hset2
    have hwr:IntKind.i64.wrap (d:Int)=d:=Lib.wrap_i64_small d (by omega)
    have hdp:(d:Int) < (p:Int):=by omega
    have hy0:(y:Int) % 256=y:=by omega
    have hxy2:((x:Int) + (y:Int)) % 256=(x:Int) + (y:Int):=by omega
    clear hset hset2 hE hp hx hxe hye hL2 MADD MB hd hj
    go_wp2
    refine wp_region_still_tail 14 (by kernel_rfl) (by kernel_rfl) ?_
    simp only [List.take_succ_cons,List.take_zero,List.drop_succ_cons,List.drop_zero]
    iterate 10 still_step
    still_call T.out
    iterate 3 still_step
    try refine wpStill_nil ?_
    change wpList _ _ _ _ _ wr.drew
    go_wp2
    go_roundw
    case rel=>exact ⟨k + 1,by omega,by go_num,by rw [HST.out];exact SET.out,(show Below w.heap.size w wr.drew from below_drewN B.out 1).setCell (p:=⟨w.heap.size,d,none⟩) (Nat.le_refl _) _⟩
    case measure=>simp [intOf];omega
  ·obtain rfl:k=m:=by omega
   clear hown hbel
   go_wp2
   go_ret
   refine ⟨some ⟨w.heap.size,0,none⟩,p,by rw [HL.out];rfl,?_,B.out⟩
   rw [HL.out]
   exact O.out
theorem one_seq (w:World) (t:TypeId) (v:Value) (B b:Nat) (hb:b=w.heap.size) (hB:w.heap.size < B):Seq (w.alloc (.cells #[v] t)) B (some ⟨b,0,none⟩) [v]:=by
 subst hb
 have h:=(Blk.new w t [v]).seq 0 1
 exact Seq.more h hB
theorem range_snoc (f:Nat→Bool) (k:Nat):bools ((List.range k).map f) ++ [.bool (f k)]=bools ((List.range (k + 1)).map f):=by
 rw [List.range_succ,List.map_append,List.map_singleton,bools_app]
theorem range_getD (f:Nat→Bool) (m t:Nat) (h:t < m):((List.range m).map f).getD t false=f t:=by
 simp [List.getD_eq_getElem?_getD,h]
def BoolRow (w:World) (bs:List Bool) (m:Nat) (e:Ending) (w':World):Prop :=
 ∃ A c,e=.returned (.slice A m c)∧w'.ownsRow w.heap.size 4 1 (.slice A m c) m (bools bs)∧Below w.heap.size w w'
theorem rTold_any (m:Nat) (A:Option Addr) (k c:Nat) (s:List Int) (w:World) (h:Arg w .u8 A k c s) (h1:1≤m) (h2:m≤16) (hs:IsSet m s) :
  Calls Try.prog 81 #[.int .i64 (m:Int),.slice A k c] w (BoolRow w ((List.range m).map (hasT s)) m):=by
 obtain ⟨i0,hi0,hz0,hz1,hz2⟩:=info_parts bool_info
 have hml:(1000:Nat)≤maxLen:=by decide
 have IN:=Lh fun (wr:World) (hB:Below w.heap.size w wr) t (ht:t < m)=>in_any A k c s t wr _ (h.below hB).seq h.len hs.byte (by omega) (by rw [← h.len,hs.len];exact pgs_le ht)
 clear h hs
 go_enter Try.func81,Try.ntmps81
 go_wp2
 go_loopw [5,6] (fun v i wr=>∃ j:Nat,j≤m∧i=.int .i64 j∧(∃ A' c',v=.slice A' j c'∧wr.ownsRow w.heap.size 4 1 (.slice A' j c') j (bools ((List.range j).map (hasT s))))∧Below w.heap.size w wr) (fun _ i _=>m - (intOf i).toNat)
 case atStart=>exact ⟨0,Nat.zero_le _,rfl,⟨none,0,rfl,World.ownsRow_nil _ _ _ _⟩,Below.refl _ _⟩
 case round =>
  obtain ⟨j,hj,rfl,⟨A1,c1,rfl,hown⟩,hbel⟩:=hrel
  by_cases hjm:j < m
  ·have T:=Lh (IN.out wr hbel j hjm)
   have hsn:=range_snoc (hasT s) j
   obtain ⟨r,hr⟩:∃ r,r=hasT s j:=⟨_,rfl⟩
   rw [← hr] at T hsn
   obtain ⟨L,hL⟩:∃ L,L=bools ((List.range j).map (hasT s)):=⟨_,rfl⟩
   rw [← hL] at hsn hown
   have SN:=Lh hsn
   have O:=Lh hown
   have B:=Lh hbel
   clear hr hsn hown hbel hL
   go_wp2_with fail
   refine T.out.mono ?_
   rintro e w2 ⟨rfl,q,rfl⟩
   have hd:=below_drewN (Below.refl wr.heap.size wr) q
   have O2:=Lh (owns_below O.out hd)
   have B2:=Lh (B.out.trans (hd.mono B.out.size))
   obtain ⟨w3,hw3⟩:∃ w3,w3=wr.drewN q:=⟨_,rfl⟩
   rw [← hw3] at O2 B2 ⊢
   clear hd hw3 T
   go_wp2_with (at_builtin;refine wpList_behind_g w _ rfl (.tmp 12) (.tmp 16) _ rfl w.heap.size 4 i0 _ 1 Try.underlying108 hi0 hz0 hz1 hz2 rfl A1 j c1 L rfl (O2.out.allocated _) (w3.heap.size + 1) (some ⟨w3.heap.size,0,none⟩) 1 1 [.bool r] rfl rfl (one_seq _ _ _ _ _ rfl (Nat.lt_succ_self _)) (by simp [Value.oneCell']) (by omega) (by omega) (B2.out.alloc B2.out.size _) (Nat.le_refl _) ?_;intro A2 c2 w4 hown4 hbel4;have O4:=Lh hown4;have B4:=Lh hbel4;clear hown4 hbel4)
   go_roundw
   case rel=>exact ⟨j + 1,by omega,by go_num,⟨A2,c2,rfl,by rw [← SN.out];exact O4.out⟩,B4.out⟩
   case measure=>simp [intOf];omega
  ·obtain rfl:j=m:=by omega
   have O:=Lh hown
   have B:=Lh hbel
   clear hown hbel
   go_wp2
   go_ret
   exact ⟨A1,c1,rfl,O.out,B.out⟩
set_option maxRecDepth 100000
theorem rLess_any (m:Nat) (A:Option Addr) (k c:Nat) (a:List Int) (A':Option Addr) (k' c':Nat) (b:List Int) (w:World) (h:Arg w .u8 A k c a) (h':Arg w .u8 A' k' c' b) (h1:1≤m) (h2:m≤16) (ha:IsSet m a) (hb:IsSet m b) :
  Calls Try.prog 83 #[.int .i64 (m:Int),.slice A k c,.slice A' k' c'] w (OneRow .u8 5 w (made m (fun u=>hasT a u && !hasT b u))):=by
 obtain ⟨i0,hi0,hz0,hz1,hz2⟩:=info_parts bool_info
 have hml:(1000:Nat)≤maxLen:=by decide
 have IN:=Lh fun (wr:World) (hB:Below w.heap.size w wr) t (ht:t < m)=>in_any A k c a t wr _ (h.below hB).seq h.len ha.byte (by omega) (by rw [← h.len,ha.len];exact pgs_le ht)
 have IN2:=Lh fun (wr:World) (hB:Below w.heap.size w wr) t (ht:t < m)=>in_any A' k' c' b t wr _ (h'.below hB).seq h'.len hb.byte (by omega) (by rw [← h'.len,hb.len];exact pgs_le ht)
 obtain ⟨f,hf⟩:∃ f:Nat→Bool,f=(fun u=>hasT a u && !hasT b u):=⟨_,rfl⟩
 have hfj:∀ j,f j=(hasT a j && !hasT b j):=fun j=>by rw [hf]
 rw [← hf]
 have HFJ:=Lh hfj
 clear h h' ha hb hf hfj
 go_enter Try.func83,Try.ntmps83
 go_wp2
 go_loopw [7,8] (fun v i wr=>∃ j:Nat,j≤m∧i=.int .i64 j∧(∃ A' c',v=.slice A' j c'∧wr.ownsRow w.heap.size 4 1 (.slice A' j c') j (bools ((List.range j).map f)))∧Below w.heap.size w wr) (fun _ i _=>m - (intOf i).toNat)
 case atStart=>exact ⟨0,Nat.zero_le _,rfl,⟨none,0,rfl,World.ownsRow_nil _ _ _ _⟩,Below.refl _ _⟩
 case round =>
  obtain ⟨j,hj,rfl,⟨A1,c1,rfl,hown⟩,hbel⟩:=hrel
  by_cases hjm:j < m
  ·have T:=IN.out wr hbel j hjm
   have hsn:=range_snoc f j
   rw [HFJ.out j] at hsn
   obtain ⟨r1,hr1⟩:∃ r,r=hasT a j:=⟨_,rfl⟩
   obtain ⟨r2,hr2⟩:∃ r,r=hasT b j:=⟨_,rfl⟩
   have IN2:=Lh fun wx hx=>IN2.out wx hx j hjm
   rw [← hr1] at T hsn
   rw [← hr2] at IN2 hsn
   have T:=Lh T
   obtain ⟨L,hL⟩:∃ L,L=bools ((List.range j).map f):=⟨_,rfl⟩
   rw [← hL] at hsn hown
   have SN:=Lh hsn
   have O:=Lh hown
   have B:=Lh hbel
   clear hr1 hr2 hsn hown hbel hL
   cases r1 with
   | false =>
    go_wp2_with fail
    refine T.out.mono ?_
    rintro e w2 ⟨rfl,q,rfl⟩
    have hd:=below_drewN (Below.refl wr.heap.size wr) q
    have O2:=Lh (owns_below O.out hd)
    have B2:=Lh (B.out.trans (hd.mono B.out.size))
    obtain ⟨w3,hw3⟩:∃ x:World,x=wr.drewN q:=⟨_,rfl⟩
    rw [← hw3] at O2 B2 ⊢
    clear hd hw3
    go_wp2_with (at_builtin;refine wpList_behind_g w _ rfl (.tmp 14) (.tmp 24) _ rfl w.heap.size 4 i0 _ 1 Try.underlying108 hi0 hz0 hz1 hz2 rfl A1 j c1 L rfl (O2.out.allocated _) (w3.heap.size + 1) (some ⟨w3.heap.size,0,none⟩) 1 1 [.bool false] rfl rfl (one_seq _ _ _ _ _ rfl (Nat.lt_succ_self _)) (by simp [Value.oneCell']) (by omega) (by omega) (B2.out.alloc B2.out.size _) (Nat.le_refl _) ?_;intro A2 c2 w4 hown4 hbel4;have O4:=Lh hown4;have B4:=Lh hbel4;clear hown4 hbel4)
    go_roundw
    case rel=>exact ⟨j + 1,by omega,by go_num,⟨A2,c2,rfl,by rw [← SN.out];exact O4.out⟩,B4.out⟩
    case measure=>simp [intOf];omega
   | true =>
    go_wp2_with fail
    refine T.out.mono ?_
    rintro e w2 ⟨rfl,q,rfl⟩
    have hd:=below_drewN (Below.refl wr.heap.size wr) q
    have O2:=Lh (owns_below O.out hd)
    have B2:=Lh (B.out.trans (hd.mono B.out.size))
    obtain ⟨w30,hw3⟩:∃ x:World,x=wr.drewN q:=⟨_,rfl⟩
    rw [← hw3] at O2 B2 ⊢
    clear hd hw3
    go_wp2_with fail
    refine (IN2.out w30 B2.out).mono ?_
    rintro e w2 ⟨rfl,q2,rfl⟩
    have hd:=below_drewN (Below.refl w30.heap.size w30) q2
    have O2:=Lh (owns_below O2.out hd)
    have B2:=Lh (B2.out.trans (hd.mono B2.out.size))
    obtain ⟨w3,hw3⟩:∃ x:World,x=w30.drewN q2:=⟨_,rfl⟩
    rw [← hw3] at O2 B2 ⊢
    clear hd hw3
    go_wp2_with (at_builtin;refine wpList_behind_g w _ rfl (.tmp 14) (.tmp 24) _ rfl w.heap.size 4 i0 _ 1 Try.underlying108 hi0 hz0 hz1 hz2 rfl A1 j c1 L rfl (O2.out.allocated _) (w3.heap.size + 1) (some ⟨w3.heap.size,0,none⟩) 1 1 [.bool (!r2)] rfl rfl (one_seq _ _ _ _ _ rfl (Nat.lt_succ_self _)) (by simp [Value.oneCell']) (by omega) (by omega) (B2.out.alloc B2.out.size _) (Nat.le_refl _) ?_;intro A2 c2 w4 hown4 hbel4;have O4:=Lh hown4;have B4:=Lh hbel4;clear hown4 hbel4)
    go_roundw
    case rel=>exact ⟨j + 1,by omega,by go_num,⟨A2,c2,rfl,by rw [← SN.out];exact O4.out⟩,B4.out⟩
    case measure=>simp [intOf];omega
  ·obtain rfl:j=m:=by omega
   have O:=Lh hown
   have B:=Lh hbel
   have e:made j (fun t=>((List.range j).map f).getD t false)=made j f:=made_congr fun t ht=>range_getD f j t ht
   have K:=rMade_any j A1 c1 ((List.range j).map f) wr (Seq.own O.out) (by simp) h1 h2
   rw [e] at K
   have K:=Lh K
   clear hown hbel e
   go_wp2_with fail
   refine K.out.mono ?_
   rintro e w5 ⟨A5,c5,rfl,hown,hbel⟩
   have O5:=Lh hown
   have B5:=Lh (B.out.trans (hbel.mono B.out.size))
   clear hown hbel
   go_wp2
   go_ret
   exact ⟨A5,c5,rfl,owns_base O5.out B.out.size,B5.out⟩
end Go.Proofs.Ytdbeiikaeccbhaa
