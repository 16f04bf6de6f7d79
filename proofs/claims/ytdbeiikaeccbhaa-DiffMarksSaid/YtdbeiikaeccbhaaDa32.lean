/- Texts of the layers below, joined. -/
import Derived.Test.YtdbeiikaeccbhaaDa13
import Derived.Test.YtdbeiikaeccbhaaDa26
import Derived.Test.YtdbeiikaeccbhaaDa29
import Derived.Test.YtdbeiikaeccbhaaDa30
set_option maxRecDepth 100000
set_option maxHeartbeats 12800000
set_option linter.unusedVariables false
namespace Go.Proofs.Ytdbeiikaeccbhaa
open Go.RowKit
set_option maxRecDepth 100000
theorem make_bools (m:Nat) (h2:m≤16) (w:World) :
  (Instr.makeSlice 108 (.int .i64 (m:Int)) (.int .i64 (m:Int))).run Try.prog w=.ok (.slice (some ⟨w.heap.size,0,none⟩) m m) (w.alloc (.cells (bools (List.replicate m false)).toArray 4)):=by
 obtain ⟨i0,hi0,hz0,hz1,hz2⟩:=info_parts bool_info
 have hmk:=run_make1 (P:=Try.prog) 108 4 i0 _ Try.underlying108 hi0 hz0 hz1 rfl m (by rw [hz2];omega) (by simp only [maxLen];omega) w
 have hrep:rep m (.bool false)=(bools (List.replicate m false)).toArray:=by simp [rep,bools]
 rwa [hrep] at hmk
theorem own_bools (m:Nat) (h2:m≤16) (w:World) :
  (w.alloc (.cells (bools (List.replicate m false)).toArray 4)).ownsRow w.heap.size 4 1 (.slice (some ⟨w.heap.size,0,none⟩) m m) m (bools (List.replicate m false)) :=
 (Blk.new w 4 (bools (List.replicate m false))).owns (Nat.le_refl _) (by simp [bools]) (Nat.le_trans h2 (by decide))
theorem rep_getD (m u:Nat):(List.replicate m false).getD u false=false:=by
 rw [gtD,List.getElem?_replicate];split <;> rfl
theorem set_getD (bs:List Bool) (k u:Nat) (x:Bool) (hk:k < bs.length):(bs.set k x).getD u false=if u=k then x else bs.getD u false:=by
 rw [gtD,List.getElem?_set,gtD]
 by_cases h:k=u
 ·subst h;simp [hk]
 ·rw [if_neg h,if_neg (fun e=>h e.symm)]
theorem owns_bool_at {w:World} {base:Nat} {e:TypeId} {A:Option Addr} {n c j:Nat} {bs:List Bool} (h:w.ownsRow base e 1 (.slice A n c) n (bools bs)) (hj:j < n) :
  ∃ g v,A=some ⟨g,0,none⟩∧base≤g∧w.cell? ⟨g,j,none⟩=some v∧w.frozen? ⟨g,j,none⟩=false∧∀ x,(w.setCell ⟨g,j,none⟩ (.bool x)).ownsRow base e 1 (.slice A n c) n (bools (bs.set j x)):=by
 obtain ⟨g,v,rfl,hb,hc,hf,hset⟩:=owns_at h hj
 refine ⟨g,v,rfl,hb,hc,hf,fun x=>?_⟩
 have:=hset (.bool x)
 rwa [show (bools bs).set j (.bool x)=bools (bs.set j x) from by simp [bools,List.map_set]] at this
theorem rFull_any (m:Nat) (w:World) (h1:1≤m) (h2:m≤16) :
  Calls Try.prog 61 #[.int .i64 (m:Int)] w (OneRow .u8 5 w (made m (fun _=>true))):=by
 have hmk:=make_bools m h2 w
 have hown:=own_bools m h2 w
 have hbel:Below w.heap.size w (w.alloc (.cells (bools (List.replicate m false)).toArray 4)):=(Below.refl _ _).alloc (Nat.le_refl _) _
 obtain ⟨w1,hw1⟩:∃ w1,w1=w.alloc (.cells (bools (List.replicate m false)).toArray 4):=⟨_,rfl⟩
 rw [← hw1] at hmk hown hbel
 have OWN:=Lh hown
 have BEL:=Lh hbel
 clear hw1 hown hbel
 go_enter Try.func61,Try.ntmps61
 go_wp2
 go_loopw [4] (fun i wr=>∃ k:Nat,k≤m∧i=.int .i64 k∧(∃ bs:List Bool,bs.length=m∧(∀ u,u < m→bs.getD u false=decide (u < k))∧wr.ownsRow w.heap.size 4 1 (.slice (some ⟨w.heap.size,0,none⟩) m m) m (bools bs))∧Below w.heap.size w wr) (fun i _=>m - (intOf i).toNat)
 case atStart=>exact ⟨0,Nat.zero_le _,rfl,⟨_,List.length_replicate,fun u _=>by rw [rep_getD];simp,OWN.out⟩,BEL.out⟩
 case round =>
  obtain ⟨k,hk,rfl,⟨bs,hbl,hbs,hown⟩,hbel⟩:=hrel
  have O:=Lh hown
  have B:=Lh hbel
  have HBS:=Lh hbs
  by_cases hkm:k < m
  ·obtain ⟨g,v,hg,hbg,hc,hf,hset⟩:=owns_bool_at hown hkm
   cases hg
   have SET:=Lh (hset true)
   clear hown hbel hset hbs
   go_wp2
   go_roundw
   case rel =>
    refine ⟨k + 1,by omega,by go_num,⟨_,?_,fun u hu=>?_,SET.out⟩,B.out.setCell (p:=⟨w.heap.size,k,none⟩) (Nat.le_refl _) _⟩
    ·rw [List.length_set];exact hbl
    ·rw [set_getD _ _ _ _ (by omega),HBS.out u hu]
     by_cases e:u=k
     ·subst e;simp
     ·rw [if_neg e,decide_eq_decide];omega
   case measure=>simp [intOf];omega
  ·obtain rfl:k=m:=by omega
   have e:made k (fun t=>bs.getD t false)=made k (fun _=>true):=made_congr fun t ht=>by rw [HBS.out t ht];simp [ht]
   have K:=rMade_any k _ k bs wr (Seq.own O.out) hbl h1 h2
   rw [e] at K
   have K:=Lh K
   clear hown hbel hbs e
   go_wp2_with fail
   refine K.out.mono ?_
   rintro e w5 ⟨A5,c5,rfl,hown,hbel⟩
   have O5:=Lh hown
   have B5:=Lh (B.out.trans (hbel.mono B.out.size))
   clear hown hbel
   go_wp2
   go_ret
   exact ⟨A5,c5,rfl,owns_base O5.out B.out.size,B5.out⟩
theorem rWith_any (m t:Nat) (A:Option Addr) (k c:Nat) (s:List Int) (is:Bool) (w:World) (h:Arg w .u8 A k c s) (h1:1≤m) (h2:m≤16) (hs:IsSet m s) (ht:t < m) :
  Calls Try.prog 58 #[.int .i64 (m:Int),.slice A k c,.int .i64 (t:Int),.bool is] w (OneRow .u8 5 w (made m (fun u=>if u=t then is else hasT s u))):=by
 have T:=Lh (rTold_any m A k c s w h h1 h2 hs)
 have hti:(t:Int) < (m:Int):=by omega
 have e:made m (fun u=>(((List.range m).map (hasT s)).set t is).getD u false)=made m (fun u=>if u=t then is else hasT s u):=made_congr fun u hu=>by
  rw [set_getD _ _ _ _ (by simp;exact ht),range_getD _ _ _ hu]
 obtain ⟨bs,hbs⟩:∃ bs,bs=(List.range m).map (hasT s):=⟨_,rfl⟩
 have hbl:bs.length=m:=by rw [hbs];simp
 rw [← hbs] at T e
 obtain ⟨R,hR⟩:∃ R,R=made m (fun u=>if u=t then is else hasT s u):=⟨_,rfl⟩
 rw [← hR] at e ⊢
 have E:=Lh e
 clear h hs e hbs hR
 go_enter Try.func58,Try.ntmps58
 go_wp2_with fail
 refine T.out.mono ?_
 rintro e w2 ⟨A2,c2,rfl,hown,hbel⟩
 obtain ⟨g,v,rfl,hbg,hc2,hf,hset⟩:=owns_bool_at hown ht
 have SET:=Lh (hset is)
 have B2:=Lh (hbel.setCell (p:=⟨g,t,none⟩) hbg (.bool is))
 have K:=rMade_any m _ c2 (bs.set t is) (w2.setCell ⟨g,t,none⟩ (.bool is)) (Seq.own SET.out) (by rw [List.length_set];exact hbl) h1 h2
 rw [E.out] at K
 have K:=Lh K
 clear hown hbel hset
 go_wp2_with fail
 refine K.out.mono ?_
 rintro e w5 ⟨A5,c5,rfl,hown,hbel⟩
 have O5:=Lh hown
 have B5:=Lh (B2.out.trans (hbel.mono B2.out.size))
 clear hown hbel
 go_wp2
 go_ret
 exact ⟨A5,c5,rfl,owns_base O5.out B2.out.size,B5.out⟩
set_option maxRecDepth 100000
theorem rsector_any (p n b:Int) (w:World) (hp:isByte p) (hn:isByte n) :
  Calls Try.prog 80 #[.int .i64 p,.int .i64 n,.int .u8 b] w (OneRow .u8 5 w (pgSec p n b)):=by
 have e1:=wrap_byte hp
 have e2:=wrap_byte hn
 have hb1:Below w.heap.size w (w.alloc (.cells #[.int .u8 1,.int .u8 p,.int .u8 n,.int .u8 b] 5)):=(Below.refl _ _).alloc (Nat.le_refl _) _
 have hml:4≤maxLen:=by decide
 have hO:=(Blk.new w 5 (ints .u8 [1,p,n,b])).owns (base:=w.heap.size) (Nat.le_refl _) rfl hml
 have hsz:w.heap.size≤(w.alloc (.cells #[.int .u8 1,.int .u8 p,.int .u8 n,.int .u8 b] 5)).heap.size:=hb1.size
 have O:=Lh hO
 have B:=Lh hb1
 clear hp hn hb1 hO hml
 go_enter Try.func80,Try.ntmps80
 go_wp2_with (at_builtin;(refine wpList_noughts _ rfl (.tmp 12) (.const (.int .i64 28)) rfl w.heap.size _ 4 _ rfl O.out 28 rfl (by decide) (by decide) hsz ?_);intro v5 w5 hown5 hg5 hob5;obtain ⟨A5,c5,rfl⟩:=owns_slice hown5;have HL5:=Lh (O.out.lt);have O5:=Lh hown5;have B5:=Lh (B.out.grown hg5 hsz (fun g e=>(HL5.out g e).1));clear hown5 hg5 hob5)
 go_ret
 exact ⟨A5,c5,rfl,O5.out,B5.out⟩
theorem rfull_any {P T A M W Q:Int} (h:mayC P T A M W Q) (w:World):Calls Try.prog 61 #[.int .i64 T] w (OneRow .u8 5 w (allB T)):=by
 have:=rFull_any T.toNat w (by unfold mayC at h;omega) (by unfold mayC at h;omega)
 rw [all_made h]
 rwa [show ((T.toNat:Nat):Int)=T by unfold mayC at h;omega] at this
theorem OneRow.len {k:IntKind} {t:TypeId} {w:World} {zs zs':List Int} {e:Ending} {w':World} (h:OneRow k t w zs e w') {n:Nat} (hz:zs=zs') (hn:zs'.length=n) :
  ∃ A c,e=.returned (.slice A n c)∧w'.ownsRow w.heap.size t 1 (.slice A n c) n (ints k zs')∧Below w.heap.size w w':=by
 subst hz;subst hn;exact h
set_option maxRecDepth 100000
theorem b_may_any {P T A M W Q:Int} (hc:mayC P T A M W Q) (D:Option Addr) (k c:Nat) (l:Txt) (w:World) (h:Arg w .u8 D k c l) (hb:∀ z ∈ l,isByte z) :
  Calls Try.prog 55 #[.int .i64 T,.slice D k c] w fun e w'=>e=.returned (.bool (decide (may T.toNat l)))∧∃ q,w'=w.drewN q:=by
 have hT:1≤T.toNat∧T.toNat≤16∧((T.toNat:Nat):Int)=T:=by unfold mayC at hc;omega
 obtain ⟨m,hm⟩:∃ m,m=T.toNat:=⟨_,rfl⟩
 rw [← hm] at hT ⊢
 rw [← hT.2.2]
 by_cases hk:k=pgs m
 ·exact may_ok m D k c l w h hb hT.1 hT.2.1 hk
 ·refine (b_may_len m D k c w hT.1 hT.2.1 hk).mono ?_
  rintro e w' ⟨rfl,rfl⟩
  refine ⟨?_,0,rfl⟩
  rw [decide_eq_false (fun h2:may m l=>hk (by rw [← h.len];exact h2.1))]
theorem rasked_cfg (P T A M W Q p:Int) (D:Option Addr) (n c:Nat) (a:Txt) (D':Option Addr) (n' c':Nat) (b:Txt) (w:World) (ha:Arg w .u8 D n c a) (hb:Arg w .u8 D' n' c' b) (hya:∀ z ∈ a,isByte z) (hyb:∀ z ∈ b,isByte z) (h:¬ mayC P T A M W Q) :
  Calls Try.prog 31 #[cfgV P T A M W Q,.int .i64 p,.slice D n c,.slice D' n' c'] w fun e w'=>e=.returned (.int .i64 8)∧Below w.heap.size w w':=by
 obtain ⟨x,hbel⟩:=box_cfg w P T A M W Q
 obtain ⟨w1,hw1⟩:∃ x:World,x=w.alloc (.cells #[.int .i64 P,.int .i64 T,.int .i64 A,.int .i64 M,.int .i64 W,.int .i64 Q] 28):=⟨_,rfl⟩
 rw [← hw1] at x hbel
 have X:=Lh x
 have B:=Lh hbel
 have RA:=Lh (ha.below hbel)
 have RB:=Lh (hb.below hbel)
 have MC:=Lh (fun w':World=>rmay_any P T A M W Q w')
 obtain ⟨c0,c1,c2,c3,c4,c5⟩:=x.cfg
 rw [decide_eq_false h] at MC
 clear h x hbel ha hb hya hyb
 go_enter Try.func31,Try.ntmps31
 go_wp2_with fail
 rw [← hw1]
 clear hw1
 refine (MC.out _).mono ?_
 rintro e w2 ⟨rfl,hb2⟩
 have B:=Lh (B.out.trans (hb2.mono B.out.size))
 have X:=Lh (X.out.below hb2 X.out.lt)
 have RA:=Lh (RA.out.below hb2)
 have RB:=Lh (RB.out.below hb2)
 clear hb2 c0 c1 c2 c3 c4 c5 MC
 go_wp2
 go_ret
 exact ⟨rfl,B.out⟩
theorem rasked_low (P T A M W Q p:Int) (D:Option Addr) (n c:Nat) (a:Txt) (D':Option Addr) (n' c':Nat) (b:Txt) (w:World) (ha:Arg w .u8 D n c a) (hb:Arg w .u8 D' n' c' b) (hya:∀ z ∈ a,isByte z) (hyb:∀ z ∈ b,isByte z) (h:mayC P T A M W Q) (hp:p < 0) :
  Calls Try.prog 31 #[cfgV P T A M W Q,.int .i64 p,.slice D n c,.slice D' n' c'] w fun e w'=>e=.returned (.int .i64 2)∧Below w.heap.size w w':=by
 obtain ⟨x,hbel⟩:=box_cfg w P T A M W Q
 obtain ⟨w1,hw1⟩:∃ x:World,x=w.alloc (.cells #[.int .i64 P,.int .i64 T,.int .i64 A,.int .i64 M,.int .i64 W,.int .i64 Q] 28):=⟨_,rfl⟩
 rw [← hw1] at x hbel
 have X:=Lh x
 have B:=Lh hbel
 have RA:=Lh (ha.below hbel)
 have RB:=Lh (hb.below hbel)
 have MC:=Lh (fun w':World=>rmay_any P T A M W Q w')
 obtain ⟨c0,c1,c2,c3,c4,c5⟩:=x.cfg
 rw [decide_eq_true h] at MC
 have h1:decide (p < 0)=true:=decide_eq_true hp
 clear h x hbel ha hb hya hyb
 go_enter Try.func31,Try.ntmps31
 go_wp2_with fail
 rw [← hw1]
 clear hw1
 refine (MC.out _).mono ?_
 rintro e w2 ⟨rfl,hb2⟩
 have B:=Lh (B.out.trans (hb2.mono B.out.size))
 have X:=Lh (X.out.below hb2 X.out.lt)
 have RA:=Lh (RA.out.below hb2)
 have RB:=Lh (RB.out.below hb2)
 clear hb2 c0 c1 c2 c3 c4 c5 MC
 obtain ⟨c0,c1,c2,c3,c4,c5⟩:=X.out.cfg
 go_wp2
 go_ret
 exact ⟨rfl,B.out⟩
theorem rasked_high (P T A M W Q p:Int) (D:Option Addr) (n c:Nat) (a:Txt) (D':Option Addr) (n' c':Nat) (b:Txt) (w:World) (ha:Arg w .u8 D n c a) (hb:Arg w .u8 D' n' c' b) (hya:∀ z ∈ a,isByte z) (hyb:∀ z ∈ b,isByte z) (h:mayC P T A M W Q) (hp:P≤p) (h0:¬ p < 0) :
  Calls Try.prog 31 #[cfgV P T A M W Q,.int .i64 p,.slice D n c,.slice D' n' c'] w fun e w'=>e=.returned (.int .i64 2)∧Below w.heap.size w w':=by
 obtain ⟨x,hbel⟩:=box_cfg w P T A M W Q
 obtain ⟨w1,hw1⟩:∃ x:World,x=w.alloc (.cells #[.int .i64 P,.int .i64 T,.int .i64 A,.int .i64 M,.int .i64 W,.int .i64 Q] 28):=⟨_,rfl⟩
 rw [← hw1] at x hbel
 have X:=Lh x
 have B:=Lh hbel
 have RA:=Lh (ha.below hbel)
 have RB:=Lh (hb.below hbel)
 have MC:=Lh (fun w':World=>rmay_any P T A M W Q w')
 obtain ⟨c0,c1,c2,c3,c4,c5⟩:=x.cfg
 rw [decide_eq_true h] at MC
 have h1:decide (p < 0)=false:=decide_eq_false h0
 have h2:decide (P≤p)=true:=decide_eq_true hp
 clear h x hbel ha hb hya hyb
 go_enter Try.func31,Try.ntmps31
 go_wp2_with fail
 rw [← hw1]
 clear hw1
 refine (MC.out _).mono ?_
 rintro e w2 ⟨rfl,hb2⟩
 have B:=Lh (B.out.trans (hb2.mono B.out.size))
 have X:=Lh (X.out.below hb2 X.out.lt)
 have RA:=Lh (RA.out.below hb2)
 have RB:=Lh (RB.out.below hb2)
 clear hb2 c0 c1 c2 c3 c4 c5 MC
 obtain ⟨c0,c1,c2,c3,c4,c5⟩:=X.out.cfg
 go_wp2
 go_ret
 exact ⟨rfl,B.out⟩
theorem rasked_a (P T A M W Q p:Int) (D:Option Addr) (n c:Nat) (a:Txt) (D':Option Addr) (n' c':Nat) (b:Txt) (w:World) (ha:Arg w .u8 D n c a) (hb:Arg w .u8 D' n' c' b) (hya:∀ z ∈ a,isByte z) (hyb:∀ z ∈ b,isByte z) (h:mayC P T A M W Q) (hp:0≤p∧p < P) (hm:¬ may T.toNat a) :
  Calls Try.prog 31 #[cfgV P T A M W Q,.int .i64 p,.slice D n c,.slice D' n' c'] w fun e w'=>e=.returned (.int .i64 8)∧Below w.heap.size w w':=by
 obtain ⟨x,hbel⟩:=box_cfg w P T A M W Q
 obtain ⟨w1,hw1⟩:∃ x:World,x=w.alloc (.cells #[.int .i64 P,.int .i64 T,.int .i64 A,.int .i64 M,.int .i64 W,.int .i64 Q] 28):=⟨_,rfl⟩
 rw [← hw1] at x hbel
 have X:=Lh x
 have B:=Lh hbel
 have RA:=Lh (ha.below hbel)
 have RB:=Lh (hb.below hbel)
 have MC:=Lh (fun w':World=>rmay_any P T A M W Q w')
 obtain ⟨c0,c1,c2,c3,c4,c5⟩:=x.cfg
 rw [decide_eq_true h] at MC
 have h1:decide (p < 0)=false:=decide_eq_false (by omega)
 have h2:decide (P≤p)=false:=decide_eq_false (by omega)
 have h3:¬ p < 0:=by omega
 have h4:¬ P≤p:=by omega
 have M1:=Lh (fun wx hx=>b_may_any h D n c a wx hx hya)
 have M2:=Lh (fun wx hx=>b_may_any h D' n' c' b wx hx hyb)
 rw [decide_eq_false hm] at M1
 clear h hp hm x hbel ha hb hya hyb
 go_enter Try.func31,Try.ntmps31
 go_wp2_with fail
 rw [← hw1]
 clear hw1
 refine (MC.out _).mono ?_
 rintro e w2 ⟨rfl,hb2⟩
 have B:=Lh (B.out.trans (hb2.mono B.out.size))
 have X:=Lh (X.out.below hb2 X.out.lt)
 have RA:=Lh (RA.out.below hb2)
 have RB:=Lh (RB.out.below hb2)
 clear hb2 c0 c1 c2 c3 c4 c5 MC
 obtain ⟨c0,c1,c2,c3,c4,c5⟩:=X.out.cfg
 go_wp2_with fail
 refine (M1.out _ RA.out).mono ?_
 rintro e w3 ⟨rfl,q3,rfl⟩
 have hb2:=below_drewN (Below.refl w2.heap.size w2) q3
 have B:=Lh (B.out.trans (hb2.mono B.out.size))
 have X:=Lh (X.out.below hb2 X.out.lt)
 have RB:=Lh (RB.out.below hb2)
 obtain ⟨v3,hv3⟩:∃ y,y=w2.drewN q3:=⟨_,rfl⟩
 rw [← hv3] at B X RB ⊢
 clear hb2 hv3 c0 c1 c2 c3 c4 c5
 obtain ⟨c0,c1,c2,c3,c4,c5⟩:=X.out.cfg
 go_wp2
 go_ret
 exact ⟨rfl,B.out⟩
theorem rasked_b (P T A M W Q p:Int) (D:Option Addr) (n c:Nat) (a:Txt) (D':Option Addr) (n' c':Nat) (b:Txt) (w:World) (ha:Arg w .u8 D n c a) (hb:Arg w .u8 D' n' c' b) (hya:∀ z ∈ a,isByte z) (hyb:∀ z ∈ b,isByte z) (h:mayC P T A M W Q) (hp:0≤p∧p < P) (hm:may T.toNat a) (hm2:¬ may T.toNat b) :
  Calls Try.prog 31 #[cfgV P T A M W Q,.int .i64 p,.slice D n c,.slice D' n' c'] w fun e w'=>e=.returned (.int .i64 8)∧Below w.heap.size w w':=by
 obtain ⟨x,hbel⟩:=box_cfg w P T A M W Q
 obtain ⟨w1,hw1⟩:∃ x:World,x=w.alloc (.cells #[.int .i64 P,.int .i64 T,.int .i64 A,.int .i64 M,.int .i64 W,.int .i64 Q] 28):=⟨_,rfl⟩
 rw [← hw1] at x hbel
 have X:=Lh x
 have B:=Lh hbel
 have RA:=Lh (ha.below hbel)
 have RB:=Lh (hb.below hbel)
 have MC:=Lh (fun w':World=>rmay_any P T A M W Q w')
 obtain ⟨c0,c1,c2,c3,c4,c5⟩:=x.cfg
 rw [decide_eq_true h] at MC
 have h1:decide (p < 0)=false:=decide_eq_false (by omega)
 have h2:decide (P≤p)=false:=decide_eq_false (by omega)
 have h3:¬ p < 0:=by omega
 have h4:¬ P≤p:=by omega
 have M1:=Lh (fun wx hx=>b_may_any h D n c a wx hx hya)
 have M2:=Lh (fun wx hx=>b_may_any h D' n' c' b wx hx hyb)
 rw [decide_eq_true hm] at M1
 rw [decide_eq_false hm2] at M2
 clear h hp hm hm2 x hbel ha hb hya hyb
 go_enter Try.func31,Try.ntmps31
 go_wp2_with fail
 rw [← hw1]
 clear hw1
 refine (MC.out _).mono ?_
 rintro e w2 ⟨rfl,hb2⟩
 have B:=Lh (B.out.trans (hb2.mono B.out.size))
 have X:=Lh (X.out.below hb2 X.out.lt)
 have RA:=Lh (RA.out.below hb2)
 have RB:=Lh (RB.out.below hb2)
 clear hb2 c0 c1 c2 c3 c4 c5 MC
 obtain ⟨c0,c1,c2,c3,c4,c5⟩:=X.out.cfg
 go_wp2_with fail
 refine (M1.out _ RA.out).mono ?_
 rintro e w3 ⟨rfl,q3,rfl⟩
 have hb2:=below_drewN (Below.refl w2.heap.size w2) q3
 have B:=Lh (B.out.trans (hb2.mono B.out.size))
 have X:=Lh (X.out.below hb2 X.out.lt)
 have RB:=Lh (RB.out.below hb2)
 obtain ⟨v3,hv3⟩:∃ y,y=w2.drewN q3:=⟨_,rfl⟩
 rw [← hv3] at B X RB ⊢
 clear hb2 hv3 c0 c1 c2 c3 c4 c5
 obtain ⟨c0,c1,c2,c3,c4,c5⟩:=X.out.cfg
 go_wp2_with fail
 refine (M2.out _ RB.out).mono ?_
 rintro e w4 ⟨rfl,q4,rfl⟩
 have hb2:=below_drewN (Below.refl v3.heap.size v3) q4
 have B:=Lh (B.out.trans (hb2.mono B.out.size))
 have X:=Lh (X.out.below hb2 X.out.lt)
 have RB:=Lh (RB.out.below hb2)
 obtain ⟨v4,hv4⟩:∃ y,y=v3.drewN q4:=⟨_,rfl⟩
 rw [← hv4] at B X RB ⊢
 clear hb2 hv4 c0 c1 c2 c3 c4 c5
 obtain ⟨c0,c1,c2,c3,c4,c5⟩:=X.out.cfg
 go_wp2
 go_ret
 exact ⟨rfl,B.out⟩
theorem rasked_ok (P T A M W Q p:Int) (D:Option Addr) (n c:Nat) (a:Txt) (D':Option Addr) (n' c':Nat) (b:Txt) (w:World) (ha:Arg w .u8 D n c a) (hb:Arg w .u8 D' n' c' b) (hya:∀ z ∈ a,isByte z) (hyb:∀ z ∈ b,isByte z) (h:mayC P T A M W Q) (hp:0≤p∧p < P) (hm:may T.toNat a) (hm2:may T.toNat b) :
  Calls Try.prog 31 #[cfgV P T A M W Q,.int .i64 p,.slice D n c,.slice D' n' c'] w fun e w'=>e=.returned (.int .i64 0)∧Below w.heap.size w w':=by
 obtain ⟨x,hbel⟩:=box_cfg w P T A M W Q
 obtain ⟨w1,hw1⟩:∃ x:World,x=w.alloc (.cells #[.int .i64 P,.int .i64 T,.int .i64 A,.int .i64 M,.int .i64 W,.int .i64 Q] 28):=⟨_,rfl⟩
 rw [← hw1] at x hbel
 have X:=Lh x
 have B:=Lh hbel
 have RA:=Lh (ha.below hbel)
 have RB:=Lh (hb.below hbel)
 have MC:=Lh (fun w':World=>rmay_any P T A M W Q w')
 obtain ⟨c0,c1,c2,c3,c4,c5⟩:=x.cfg
 rw [decide_eq_true h] at MC
 have h1:decide (p < 0)=false:=decide_eq_false (by omega)
 have h2:decide (P≤p)=false:=decide_eq_false (by omega)
 have h3:¬ p < 0:=by omega
 have h4:¬ P≤p:=by omega
 have M1:=Lh (fun wx hx=>b_may_any h D n c a wx hx hya)
 have M2:=Lh (fun wx hx=>b_may_any h D' n' c' b wx hx hyb)
 rw [decide_eq_true hm] at M1
 rw [decide_eq_true hm2] at M2
 clear h hp hm hm2 x hbel ha hb hya hyb
 go_enter Try.func31,Try.ntmps31
 go_wp2_with fail
 rw [← hw1]
 clear hw1
 refine (MC.out _).mono ?_
 rintro e w2 ⟨rfl,hb2⟩
 have B:=Lh (B.out.trans (hb2.mono B.out.size))
 have X:=Lh (X.out.below hb2 X.out.lt)
 have RA:=Lh (RA.out.below hb2)
 have RB:=Lh (RB.out.below hb2)
 clear hb2 c0 c1 c2 c3 c4 c5 MC
 obtain ⟨c0,c1,c2,c3,c4,c5⟩:=X.out.cfg
 go_wp2_with fail
 refine (M1.out _ RA.out).mono ?_
 rintro e w3 ⟨rfl,q3,rfl⟩
 have hb2:=below_drewN (Below.refl w2.heap.size w2) q3
 have B:=Lh (B.out.trans (hb2.mono B.out.size))
 have X:=Lh (X.out.below hb2 X.out.lt)
 have RB:=Lh (RB.out.below hb2)
 obtain ⟨v3,hv3⟩:∃ y,y=w2.drewN q3:=⟨_,rfl⟩
 rw [← hv3] at B X RB ⊢
 clear hb2 hv3 c0 c1 c2 c3 c4 c5
 obtain ⟨c0,c1,c2,c3,c4,c5⟩:=X.out.cfg
 go_wp2_with fail
 refine (M2.out _ RB.out).mono ?_
 rintro e w4 ⟨rfl,q4,rfl⟩
 have hb2:=below_drewN (Below.refl v3.heap.size v3) q4
 have B:=Lh (B.out.trans (hb2.mono B.out.size))
 have X:=Lh (X.out.below hb2 X.out.lt)
 have RB:=Lh (RB.out.below hb2)
 obtain ⟨v4,hv4⟩:∃ y,y=v3.drewN q4:=⟨_,rfl⟩
 rw [← hv4] at B X RB ⊢
 clear hb2 hv4 c0 c1 c2 c3 c4 c5
 obtain ⟨c0,c1,c2,c3,c4,c5⟩:=X.out.cfg
 go_wp2
 go_ret
 exact ⟨rfl,B.out⟩
theorem rasked_any (P T A M W Q p:Int) (D:Option Addr) (n c:Nat) (a:Txt) (D':Option Addr) (n' c':Nat) (b:Txt) (w:World) (ha:Arg w .u8 D n c a) (hb:Arg w .u8 D' n' c' b) (hya:∀ z ∈ a,isByte z) (hyb:∀ z ∈ b,isByte z) :
  Calls Try.prog 31 #[cfgV P T A M W Q,.int .i64 p,.slice D n c,.slice D' n' c'] w fun e w'=>e=.returned (.int .i64 (dfE P T A M W Q p a b))∧Below w.heap.size w w':=by
 unfold dfE
 by_cases h:mayC P T A M W Q
 ·rw [if_pos h]
  by_cases hp:0≤p∧p < P
  ·rw [if_pos hp]
   by_cases hm:may T.toNat a
   ·by_cases hm2:may T.toNat b
    ·rw [if_pos ⟨hm,hm2⟩]
     exact rasked_ok P T A M W Q p D n c a D' n' c' b w ha hb hya hyb h hp hm hm2
    ·rw [if_neg (fun h2=>hm2 h2.2)]
     exact rasked_b P T A M W Q p D n c a D' n' c' b w ha hb hya hyb h hp hm hm2
   ·rw [if_neg (fun h2=>hm h2.1)]
    exact rasked_a P T A M W Q p D n c a D' n' c' b w ha hb hya hyb h hp hm
  ·rw [if_neg hp]
   by_cases h0:p < 0
   ·exact rasked_low P T A M W Q p D n c a D' n' c' b w ha hb hya hyb h h0
   ·exact rasked_high P T A M W Q p D n c a D' n' c' b w ha hb hya hyb h (by omega) h0
 ·rw [if_neg h]
  exact rasked_cfg P T A M W Q p D n c a D' n' c' b w ha hb hya hyb h
theorem rboth14_any (m:Nat) (D:Option Addr) (k c:Nat) (a:Txt) (D':Option Addr) (k' c':Nat) (b:Txt) (w:World) (h:Arg w .u8 D k c a) (h':Arg w .u8 D' k' c' b) (h1:1≤m) (h2:m≤16) (ha:IsSet m a) (hb:IsSet m b) :
  Calls Try.prog 59 #[.int .i64 (m:Int),.slice D k c,.slice D' k' c'] w (OneRow .u8 5 w (bothL m a b)):=by
 have L1:=Lh (rLess_any m D k c a D' k' c' b w h h' h1 h2 ha hb)
 obtain ⟨d,hd⟩:∃ d,d=made m (fun u=>hasT a u && !hasT b u):=⟨_,rfl⟩
 have hds:IsSet m d:=by rw [hd];exact made_isSet _ _
 have he:made m (fun u=>hasT a u && !hasT d u)=bothL m a b:=by
  unfold bothL
  refine made_congr fun t ht=>?_
  rw [hd,hasT_made,decide_eq_true ht,Bool.true_and]
  cases hasT a t <;> cases hasT b t <;> rfl
 rw [← hd] at L1
 obtain ⟨g,hg⟩:∃ g,g=d.length:=⟨_,rfl⟩
 have HG:=Lh hg.symm
 have L2:=Lh (fun D2 c2 wx (hx:Arg wx .u8 D k c a) (hy:Arg wx .u8 D2 g c2 d)=>rLess_any m D k c a D2 g c2 d wx hx hy h1 h2 ha hds)
 rw [he] at L2
 have HA:=Lh h
 obtain ⟨L,hL⟩:∃ L,L=bothL m a b:=⟨_,rfl⟩
 rw [← hL] at L2 ⊢
 obtain ⟨r,hr⟩:∃ g,g=L.length:=⟨_,rfl⟩
 have HR:=Lh hr.symm
 clear h h' ha hb hd hds he hg hL hr
 go_enter Try.func59,Try.ntmps59
 go_wp2_with fail
 refine L1.out.mono ?_
 intro e w2 hout
 obtain ⟨A2,r2,rfl,hown,hb⟩:=hout.len rfl HG.out
 have BB:=Lh hb
 have HA:=Lh (HA.out.below hb)
 have HD:=Lh (Arg.own hown)
 clear hb hown hout L1
 go_wp2_with fail
 refine (L2.out _ _ _ HA.out HD.out).mono ?_
 intro e w3 hout
 obtain ⟨A3,r3,rfl,hown,hb⟩:=hout.len rfl HR.out
 have O:=Lh (owns_base hown BB.out.size)
 have BF:=Lh (BB.out.trans (hb.mono BB.out.size))
 clear hb hown hout L2
 go_wp2
 go_ret
 exact ⟨A3,r3,by rw [HR.out];rfl,by rw [HR.out];exact O.out,BF.out⟩
theorem step_app {P:Program} (w:World) {ops:Array Oper} {o:Oper} {a:Act} {K:Act→World→Prop} {Q:Exit→Act→World→Prop} {E':Prop} (hgd:o.guard=none) (s x:Operand) (t:TypeId)
  (ho:o.op=.call { callee:=.builtin .append,args:=#[s,x],argTypes:=#[t,t] })
  (base:Nat) (e:TypeId) (i:TypeInfo) (z:Value) (bytes:Nat) (ht:P.underlying t=some (.slice e)) (hi:P.info? e=some i) (hz:i.zero=some z)
  (hsize:i.size=1) (hby:i.bytes=bytes) (hzs:z.cells.size=1) (v:Value) (n:Nat) (xs:List Value) (hs:a.eval s=v) (hown:w.ownsRow base e 1 v n xs)
  (B:Nat) (A:Option Addr) (m c:Nat) (news:List Value) (hx:a.eval x=.slice A m c) (hl:news.length=m) (hr:Seq w B A news) (h1:∀ u ∈ news,u.oneCell'=true)
  (h63:n + m≤maxLen) (hbytes:(n + m) * bytes≤140737488355328) (hbase:base≤w.heap.size)
  (h:∀ v' w',w'.ownsRow base e 1 v' (n + m) (xs ++ news)→w.grownBy w' v.ownBlock→(v'.ownBlock=v.ownBlock∨v'.ownBlock=some w.heap.size)→K (a.put o.dst v') w') :
  if Region.wanted o (yielded ops a.tmps)=true then Oper.wp P o a w K Q else E':=by
 have hw:Region.wanted o (yielded ops a.tmps)=true:=by simp [Region.wanted,hgd]
 rw [if_pos hw]
 obtain ⟨v',w',hrun,h2,h3,h4⟩:=run_app (P:=P) w base t o.type e i z bytes ht hi hz hsize hby hzs v n xs hown B A m c news hl hr h1 h63 hbytes hbase
 unfold Oper.wp execOp
 simp only [ho,resolve,invoke,builtin,Sem.run_bind,Sem.run_pure,Result.andThen_ok,List.map_toArray,List.map_cons,List.map_nil,hs,hx,hrun]
 exact h v' w' h2 h3 h4
theorem lit_bool (w:World) (v:Bool):Seq (w.alloc (.cells #[.bool v] 4)) (w.heap.size + 1) (some ⟨w.heap.size,0,none⟩) (bools [v]):=by
 have h:=(Blk.new w 4 (bools [v])).seq 0 1
 simpa [bools] using h
theorem differ14_any (D:Option Addr) (n c:Nat) (a:Txt) (D':Option Addr) (n' c':Nat) (b:Txt) (w:World) (ha:Arg w .u8 D n c a) (hb:Arg w .u8 D' n' c' b) (hn:n≤n') (hn2:n≤100) :
  Calls Try.prog 60 #[.slice D n c,.slice D' n' c'] w fun e w'=>∃ A2 c2,e=.returned (.slice A2 n c2)∧w'.ownsRow w.heap.size 4 1 (.slice A2 n c2) n (bools ((List.range n).map (difW a b)))∧Below w.heap.size w w':=by
 obtain ⟨ib,hib,hbz,hb1,hb2⟩:=info_parts bool_info
 have hml:(1000:Nat)≤maxLen:=by decide
 have RA:=Lh ha
 have RB:=Lh hb
 have LA:=Lh ha.len
 have LB:=Lh hb.len
 have SU:=Lh (fun k:Nat=>(by rw [List.range_succ,List.map_append];rfl:(List.range (k + 1)).map (difW a b)=(List.range k).map (difW a b) ++ [difW a b k]))
 have HN:=Lh hn
 clear ha hb hn
 go_enter Try.func60,Try.ntmps60
 go_wp2
 go_loopw [5,6] (fun o i wr=>∃ (k:Nat) (A':Option Addr) (c2:Nat),k≤n∧i=.int .i64 k∧o=.slice A' k c2∧wr.ownsRow w.heap.size 4 1 (.slice A' k c2) k (bools ((List.range k).map (difW a b)))∧Below w.heap.size w wr) (fun _ i _=>n - (intOf i).toNat)
 case atStart=>exact ⟨0,none,0,Nat.zero_le _,rfl,rfl,World.ownsRow_nil _ _ _ _,Below.refl _ _⟩
 case round =>
  obtain ⟨k,A',c2,hk,rfl,rfl,hown,hbw⟩:=hrel
  by_cases hkn:k < n
  ·have hki:(k:Int) < (n:Int):=by omega
   have hkj:(k:Int) < (n':Int):=by have:=HN.out;omega
   have hwr:IntKind.i64.wrap (k:Int)=k:=Lib.wrap_i64_small k (by omega)
   obtain ⟨g1,o1,rfl,hl1,z1⟩:=RA.out.seq.int (j:=k) (by rw [LA.out];exact hkn)
   obtain ⟨g2,o2,rfl,hl2,z2⟩:=RB.out.seq.int (j:=k) (by rw [LB.out];exact Nat.lt_of_lt_of_le hkn HN.out)
   have SK:=SU.out k
   have hd:difW a b k=(a.getD k 0 != b.getD k 0):=rfl
   obtain ⟨x,hx⟩:∃ x,x=a.getD k 0:=⟨_,rfl⟩
   obtain ⟨y,hy⟩:∃ x,x=b.getD k 0:=⟨_,rfl⟩
   rw [← hx,← hy] at hd
   rw [hd] at SK
   obtain ⟨r,hr⟩:∃ r,r=(x != y):=⟨_,rfl⟩
   rw [← hr] at SK
   have hr2:(x != y)=r:=hr.symm
   have SK:=Lh SK
   have keepX:∀ wx,Below w.heap.size w wx→wx.cell? ⟨g1,o1 + k,none⟩=some (.int .u8 x)∧wx.cell? ⟨g2,o2 + k,none⟩=some (.int .u8 y):=fun wx hx' =>
    ⟨((hx'.cell (p:=⟨g1,o1 + k,none⟩) hl1).trans z1).trans (by rw [hx]),((hx'.cell (p:=⟨g2,o2 + k,none⟩) hl2).trans z2).trans (by rw [hy])⟩
   have BD:=Lh (below_drewN hbw 1)
   have OD:=Lh (owns_below hown (below_drewN (Below.refl _ _) 1))
   have BL:=Lh (BD.out.alloc BD.out.size (.cells #[.bool r] 4))
   have OL:=Lh (owns_below OD.out ((Below.refl _ _).alloc (Nat.le_refl _) (.cells #[.bool r] 4)))
   have LS:=Lh (lit_bool wr.drew r)
   have HLT:=Lh OL.out.lt
   have hM1:k + 1≤maxLen:=by omega
   have HSZ:=Lh BL.out.size
   have hkX:=keepX _ BD.out
   clear hown hbw hl1 hl2 z1 z2 hd hx hy hr
   go_upto_region 5 with fail
   go_region_held3 (fun w'=>w'.cell? ⟨g1,o1 + k,none⟩=some (.int .u8 x)∧w'.cell? ⟨g2,o2 + k,none⟩=some (.int .u8 y))
    (first | exact hkX | exact keepX _ BL.out | go_keep)
    ((refine step_app _ (by rfl) (.tmp 13) (.tmp 23) _ (by rfl) w.heap.size 4 ib _ 1 Try.underlying108 hib hbz hb1 hb2 (by rfl) _ k _ (by rfl) OL.out _ _ 1 _ (bools [r]) (by rfl) (by rfl) LS.out (bools_one _) hM1 (by omega) HSZ.out ?_;intro v6 w6 hown6 hg6 hob6;have hbX:=BL.out.grown hg6 HSZ.out (fun g e=>(HLT.out g e).1);have hkX:=keepX w6 hbX))
   obtain ⟨A6,c6,rfl⟩:=owns_slice hown6
   have O6:=Lh hown6
   have B6:=Lh hbX
   clear hown6 hg6 hob6 hbX hkX keepX
   go_wp2
   go_roundw
   case rel=>exact ⟨k + 1,A6,c6,by omega,by go_num,rfl,by rw [SK.out,bools_app];exact O6.out,B6.out⟩
   all_goals (try case measure=>simp [intOf];omega)
  ·obtain rfl:k=n:=by omega
   have OW:=Lh hown
   have BW:=Lh hbw
   clear hown hbw
   go_wp2
   go_ret
   exact ⟨A',c2,rfl,OW.out,BW.out⟩
end Go.Proofs.Ytdbeiikaeccbhaa
