/- Texts of the layers below, joined. -/
import Derived.Test.YtdbeiikaeccbhaaDa25
import Derived.Test.YtdbeiikaeccbhaaDa27
set_option maxRecDepth 100000
set_option maxHeartbeats 12800000
set_option linter.unusedVariables false
namespace Go.Proofs.Ytdbeiikaeccbhaa
open Go.RowKit
set_option maxRecDepth 100000
theorem pge_byte {P T A M W Q p n:Int} (h:pgeE P T A M W Q p n=0):isByte p∧isByte n:=by
 obtain ⟨hc,h0,h1,h2,h3⟩:=pge_zero h
 have hg:=pag_is hc
 unfold mayC at hc
 exact ⟨⟨h0,by omega⟩,⟨h2,by omega⟩⟩
def PgnOut (w:World) (x:Int) (L:Txt) (E:Int) (e:Ending) (w':World):Prop :=
 ∃ A c,e=.returned (.tuple #[.agg #[.int .i64 x,.slice A L.length c],.int .i64 E])∧w'.ownsRow w.heap.size 5 1 (.slice A L.length c) L.length (ints .u8 L)∧Below w.heap.size w w'
structure KBox (w:World) (G:Nat) (P T A M W Q:Int):Prop where
 cfg:Blk w G 28 [.int .i64 P,.int .i64 T,.int .i64 A,.int .i64 M,.int .i64 W,.int .i64 Q]
 res:Blk w (G + 1) 33 [.int .i64 0,.slice none 0 0]
theorem KBox.below {w w':World} {G:Nat} {P T A M W Q:Int} (x:KBox w G P T A M W Q) (hb:Below w.heap.size w w'):KBox w' G P T A M W Q:=⟨x.cfg.below hb x.cfg.lt,x.res.below hb x.res.lt⟩
theorem KBox.new (w:World) (P T A M W Q:Int):KBox ((w.alloc (.cells #[.int .i64 P,.int .i64 T,.int .i64 A,.int .i64 M,.int .i64 W,.int .i64 Q] 28)).alloc (.cells #[.int .i64 0,.slice none 0 0] 33)) w.heap.size P T A M W Q ∧
  Below w.heap.size w ((w.alloc (.cells #[.int .i64 P,.int .i64 T,.int .i64 A,.int .i64 M,.int .i64 W,.int .i64 Q] 28)).alloc (.cells #[.int .i64 0,.slice none 0 0] 33)):=by
 obtain ⟨x,hb⟩:=box_cfg w P T A M W Q
 have y:=Blk.new (w.alloc (.cells #[.int .i64 P,.int .i64 T,.int .i64 A,.int .i64 M,.int .i64 W,.int .i64 Q] 28)) 33 [.int .i64 0,.slice none 0 0]
 rw [World.size_alloc] at y
 exact ⟨⟨x.grown (World.grownBy_alloc _ _ none) (by simp),y⟩,hb.alloc hb.size _⟩
theorem pgplan_any (P T A M W Q p n b:Int) (w:World) (hb:isByte b) :
  Calls Try.prog 11 #[cfgV P T A M W Q,.int .i64 p,.int .i64 n,.int .u8 b] w (PgnOut w (pxN P T A M W Q p n b) (pxT P T A M W Q p n b) (pxE P T A M W Q p n b)):=by
 obtain ⟨x,hbel⟩:=KBox.new w P T A M W Q
 obtain ⟨w1,hw1⟩:∃ x:World,x=(w.alloc (.cells #[.int .i64 P,.int .i64 T,.int .i64 A,.int .i64 M,.int .i64 W,.int .i64 Q] 28)).alloc (.cells #[.int .i64 0,.slice none 0 0] 33):=⟨_,rfl⟩
 rw [← hw1] at x hbel
 have X:=Lh x
 have B:=Lh hbel
 obtain ⟨c0,c1,c2,c3,c4,c5⟩:=x.cfg.cfg
 have d0:w1.cell? ⟨w.heap.size + 1,0,none⟩=some (.int .i64 0):=x.res.cell 0
 have d1:w1.cell? ⟨w.heap.size + 1,1,none⟩=some (.slice none 0 0):=x.res.cell 1
 unfold pxN pxT pxE
 by_cases h0:pgeE P T A M W Q p n=0
 ·have PO:=Lh (fun w':World=>ppageof_yes P T A M W Q p n w' h0)
  obtain ⟨hp,hn⟩:=pge_byte h0
  rw [if_pos h0]
  obtain ⟨a,ha⟩:∃ a,a=atP T A p n:=⟨_,rfl⟩
  have hf:isByte (fulP T n.toNat):=ful_byte
  obtain ⟨f,hf0⟩:∃ f,f=fulP T n.toNat:=⟨_,rfl⟩
  rw [← ha,← hf0] at PO
  rw [← hf0] at hf ⊢
  rw [← ha]
  have TX:=Lh (fun w':World=>ptext_any p n a f b w' hp hn hf hb)
  by_cases hs:subP b f
  ·rw [if_pos hs,if_pos hs] at TX
   rw [if_pos hs,if_pos rfl,if_pos rfl]
   obtain ⟨L,hL⟩:∃ L:Txt,L=pgSec p n b:=⟨_,rfl⟩
   have hl:L.length=32:=by rw [hL];exact pgSec_len _ _
   rw [← hL] at TX ⊢
   have HM:=Lh hl
   clear x hbel h0 hp hn ha hf hf0 hb hL hl hs
   go_enter Try.func11,Try.ntmps11
   go_wp2_with fail
   rw [← hw1]
   clear hw1
   refine (PO.out _).mono ?_
   rintro e w2 ⟨rfl,hb⟩
   have B:=Lh (B.out.trans (hb.mono B.out.size))
   have X:=Lh (X.out.below hb)
   obtain ⟨y,hk⟩:=box_pge w2 p n a f
   have B:=Lh (B.out.trans (hk.mono B.out.size))
   have X:=Lh (X.out.below hk)
   have Y:=Lh y
   obtain ⟨q0,q1,q2,q3⟩:=y.pge
   clear hb c0 c1 c2 c3 c4 c5 d0 d1 PO y hk
   go_wp2_with fail
   refine (TX.out _).mono ?_
   intro e w3 hout
   obtain ⟨A3,r3,rfl,hown,hb⟩:=hout.len rfl HM.out
   have O:=Lh (owns_base hown B.out.size)
   have B:=Lh (B.out.trans (hb.mono B.out.size))
   have X:=Lh (X.out.below hb)
   have Y:=Lh (Y.out.below hb Y.out.lt)
   clear hb hown hout q0 q1 q2 q3 TX
   obtain ⟨q0,q1,q2,q3⟩:=Y.out.pge
   have d0:w3.cell? ⟨w.heap.size + 1,0,none⟩=some (.int .i64 0):=X.out.res.cell 0
   have d1:w3.cell? ⟨w.heap.size + 1,1,none⟩=some (.slice none 0 0):=X.out.res.cell 1
   have f0:=X.out.res.free 0
   have f1:=X.out.res.free 1
   go_wp2
   have z:=X.out.res.two (.int .i64 a) (.slice A3 32 r3)
   obtain ⟨z0,z1⟩:_∧_:=⟨z.cell 0,z.cell 1⟩
   simp only [gcZ,gcS] at z0 z1
   refine bodyPost_ret (v:=.tuple #[.agg #[.int .i64 a,.slice A3 32 r3],.int .i64 0]) ?_ rfl ⟨A3,r3,by rw [HM.out],?_,below_two B.out (by omega) _ _⟩
   ·clear d0 d1 f0 f1 q0 q1 q2 q3
    simp [results,Try.f11,go_sem,z0,z1]
   ·rw [HM.out]
    exact owns_other_box (owns_other_box O.out X.out.res (by decide) 0 _) (X.out.res.set 0 _) (by decide) 1 _
  ·rw [if_neg hs,if_neg hs] at TX
   rw [if_neg hs,if_neg (by decide),if_neg (by decide)]
   clear x hbel h0 hp hn ha hf hf0 hb hs
   go_enter Try.func11,Try.ntmps11
   go_wp2_with fail
   rw [← hw1]
   clear hw1
   refine (PO.out _).mono ?_
   rintro e w2 ⟨rfl,hb⟩
   have B:=Lh (B.out.trans (hb.mono B.out.size))
   have X:=Lh (X.out.below hb)
   obtain ⟨y,hk⟩:=box_pge w2 p n a f
   have B:=Lh (B.out.trans (hk.mono B.out.size))
   have X:=Lh (X.out.below hk)
   obtain ⟨q0,q1,q2,q3⟩:=y.pge
   clear hb c0 c1 c2 c3 c4 c5 d0 d1 PO y hk
   go_wp2_with fail
   refine (TX.out _).mono ?_
   rintro e w3 ⟨A3,r3,rfl,_,hb⟩
   have B:=Lh (B.out.trans (hb.mono B.out.size))
   have X:=Lh (X.out.below hb)
   clear hb q0 q1 q2 q3 TX
   have d0:w3.cell? ⟨w.heap.size + 1,0,none⟩=some (.int .i64 0):=X.out.res.cell 0
   have d1:w3.cell? ⟨w.heap.size + 1,1,none⟩=some (.slice none 0 0):=X.out.res.cell 1
   have f0:=X.out.res.free 0
   have f1:=X.out.res.free 1
   go_wp2
   have z:=X.out.res.two (.int .i64 0) (.slice none 0 0)
   obtain ⟨z0,z1⟩:_∧_:=⟨z.cell 0,z.cell 1⟩
   simp only [gcZ,gcS] at z0 z1
   refine bodyPost_ret (v:=.tuple #[.agg #[.int .i64 0,.slice none 0 0],.int .i64 2]) ?_ rfl ⟨none,0,rfl,World.ownsRow_nil _ _ _ _,below_two B.out (by omega) _ _⟩
   clear d0 d1 f0 f1
   simp [results,Try.f11,go_sem,z0,z1]
 ·have PO:=Lh (fun w':World=>ppageof_no P T A M W Q p n w' h0)
  rw [if_neg h0,if_neg h0,if_neg h0]
  obtain ⟨E,hE⟩:∃ E,E=pgeE P T A M W Q p n:=⟨_,rfl⟩
  rw [← hE] at PO h0 ⊢
  have hq:(E != 0)=true:=bne_iff_ne.2 h0
  clear x hbel h0 hE
  go_enter Try.func11,Try.ntmps11
  go_wp2_with fail
  rw [← hw1]
  clear hw1
  refine (PO.out _).mono ?_
  rintro e w2 ⟨rfl,hb⟩
  have B:=Lh (B.out.trans (hb.mono B.out.size))
  have X:=Lh (X.out.below hb)
  obtain ⟨y,hk⟩:=box_pge w2 0 0 0 0
  have B:=Lh (B.out.trans (hk.mono B.out.size))
  have X:=Lh (X.out.below hk)
  obtain ⟨w3,hw3⟩:∃ x:World,x=w2.alloc (.cells #[.int .i64 0,.int .i64 0,.int .i64 0,.int .u8 0] 77):=⟨_,rfl⟩
  rw [← hw3] at B X
  have d0:w3.cell? ⟨w.heap.size + 1,0,none⟩=some (.int .i64 0):=X.out.res.cell 0
  have d1:w3.cell? ⟨w.heap.size + 1,1,none⟩=some (.slice none 0 0):=X.out.res.cell 1
  have f0:=X.out.res.free 0
  have f1:=X.out.res.free 1
  clear hb c0 c1 c2 c3 c4 c5 PO y hk
  go_upto_region 2 with fail
  rw [← hw3]
  clear hw3
  go_wp2
  have z:=X.out.res.two (.int .i64 0) (.slice none 0 0)
  obtain ⟨z0,z1⟩:_∧_:=⟨z.cell 0,z.cell 1⟩
  simp only [gcZ,gcS] at z0 z1
  refine bodyPost_ret (v:=.tuple #[.agg #[.int .i64 0,.slice none 0 0],.int .i64 E]) ?_ rfl ⟨none,0,rfl,World.ownsRow_nil _ _ _ _,below_two B.out (by omega) _ _⟩
  clear d0 d1 f0 f1
  simp [results,Try.f11,go_sem,z0,z1]
set_option maxRecDepth 100000
theorem pge_in {P T A M W Q p:Int} (h:mayC P T A M W Q) {k:Nat} (hk:(k:Int) < pagC T):pgeE P T A M W Q p k=if 0≤p∧p < P then 0 else 2:=by
 unfold pgeE
 rw [if_pos h]
 by_cases hp:0≤p∧p < P
 ·rw [if_pos hp,if_pos ⟨hp.1,by omega,by omega,by omega⟩]
 ·rw [if_neg hp,if_neg (fun h2=>hp ⟨h2.1,by omega⟩)]
theorem set_getP {l:List Int} {k:Nat} (hk:k < l.length) (x:Int) (j:Nat):(l.set k x).getD j 0=if j=k then x else l.getD j 0:=by
 rw [gtD,List.getElem?_set,gtD]
 by_cases h:k=j
 ·subst h
  rw [if_pos rfl,if_pos hk,if_pos rfl]
  rfl
 ·rw [if_neg h,if_neg (fun e=>h e.symm)]
theorem pgread_yes (P T A M W Q p:Int) (D:Option Addr) (nd cd:Nat) (D':Option Addr) (nd' cd':Nat) (S:List Sec) (C:List Pnd) (w:World) (hq:Dsk w D nd cd D' nd' cd' S C) (hs:SmallD S C) (ht:mayT P T A M W Q S C) (hp:0≤p∧p < P) :
  Calls Try.prog 18 #[cfgV P T A M W Q,diskV D nd cd D' nd' cd',.int .i64 p] w (RowOut .u8 5 w (mkL T A S C p (pagC T).toNat) 0):=by
 obtain ⟨x,hbel⟩:=TBox.new P T A M W Q hq
 obtain ⟨w1,hw1⟩:∃ x:World,x=(w.alloc (.cells #[.int .i64 P,.int .i64 T,.int .i64 A,.int .i64 M,.int .i64 W,.int .i64 Q] 28)).alloc (.cells #[.slice D nd cd,.slice D' nd' cd'] 56):=⟨_,rfl⟩
 rw [← hw1] at x hbel
 have X:=Lh x
 have B:=Lh hbel
 have hc:=ht.1
 have hpg:=pag_pgs hc
 have hgi:=pag_is hc
 have CK:=Lh (fun wx hx=>tcheck_any P T A M W Q D nd cd D' nd' cd' S C wx hx hs)
 rw [show tcE P T A M W Q S C=0 from if_pos ht] at CK
 have PA:=Lh (fun w':World=>ppagesN_any P T A M W Q w')
 rw [show pagN P T A M W Q=pagC T from if_pos hc,show chkC P T A M W Q=0 from if_pos hc] at PA
 obtain ⟨m,hm⟩:∃ m,m=(pagC T).toNat:=⟨_,rfl⟩
 rw [show pagC T=(m:Int) by omega] at PA
 have hm2:m≤2:=by omega
 have hT:T.toNat≤16:=by unfold mayC at hc;omega
 have MK:=Lh (fun wx:World=>make_none T.toNat hT wx)
 have OM:=Lh (fun wx:World=>own_none T.toNat hT wx)
 rw [← hpg,← hm] at MK OM
 have PO:=Lh (fun (k:Nat) (hk:k < m) (w':World)=>ppageof_yes P T A M W Q p k w' (by rw [pge_in hc (by omega),if_pos hp]))
 have TO:=Lh (fun (k:Nat) (hk:k < m) (wx:World) (hx:Dsk wx D nd cd D' nd' cd' S C)=>ptold_any p k (atP T A p k) (fulP T (k:Int).toNat) D nd cd D' nd' cd' S C wx hx hs (show isByte p by unfold mayC at hc;exact ⟨hp.1,by omega⟩) ⟨by omega,by omega⟩ ful_byte)
 have hL:∀ k,k < m→toldF (fulP T (k:Int).toNat) p k (optAt S C (atP T A p k))=(mkL T A S C p m).getD k 0:=fun k hk=>by
  rw [mk_at hk,told_F,Int.toNat_natCast]
 have hLl:(mkL T A S C p m).length=m:=mk_length
 rw [← hm]
 obtain ⟨L,hLe⟩:∃ L,L=mkL T A S C p m:=⟨_,rfl⟩
 rw [← hLe] at hL hLl ⊢
 have HL:=Lh hL
 have HLL:=Lh hLl
 have hz:(none0 T.toNat).length=m:=by rw [hm,hpg];simp [none0]
 obtain ⟨Z,hZ⟩:∃ Z,Z=none0 T.toNat:=⟨_,rfl⟩
 rw [← hZ] at MK OM hz
 have HZ:=Lh hz
 obtain ⟨c0,c1,c2,c3,c4,c5,d0,d1⟩:=x.cells
 clear hq hs ht hp x hbel hc hpg hgi hT hm hL hLl hLe hz hZ
 go_enter Try.func18,Try.ntmps18
 go_wp2_with fail
 rw [← hw1]
 clear hw1
 refine (CK.out _ X.out.dsk.dsk).mono ?_
 rintro e w2 ⟨rfl,hb⟩
 have B:=Lh (B.out.trans (hb.mono B.out.size))
 have X:=Lh (X.out.below hb)
 clear hb c0 c1 c2 c3 c4 c5 d0 d1 CK
 obtain ⟨c0,c1,c2,c3,c4,c5,d0,d1⟩:=X.out.cells
 go_wp2_with fail
 refine (PA.out _).mono ?_
 rintro e w3 ⟨rfl,hb⟩
 have B:=Lh (B.out.trans (hb.mono B.out.size))
 have X:=Lh (X.out.below hb)
 clear hb c0 c1 c2 c3 c4 c5 d0 d1 PA
 have hmk:=MK.out w3
 have hown:=OM.out w3
 have hal:Below w3.heap.size w3 (w3.alloc (.cells (ints .u8 Z).toArray 5)):=(Below.refl _ _).alloc (Nat.le_refl _) _
 obtain ⟨w4,hw4⟩:∃ x:World,x=w3.alloc (.cells (ints .u8 Z).toArray 5):=⟨_,rfl⟩
 obtain ⟨g,hg⟩:∃ x:Nat,x=w3.heap.size:=⟨_,rfl⟩
 rw [← hw4] at hmk hown hal
 rw [← hg] at hmk hown hal
 have O:=Lh hown
 have K:=Lh hal
 have HG:=Lh hg
 clear hown hal hw4 hg MK OM
 go_upto_region 6 with fail
 clear hmk
 go_wp2
 go_loopw [30] (fun i wr=>∃ (k:Nat) (l:List Int),k≤m∧i=.int .i64 k∧l.length=m∧(∀ y,y < k→l.getD y 0=L.getD y 0)∧wr.ownsRow g 5 1 (.slice (some ⟨g,0,none⟩) m m) m (ints .u8 l)∧Below g w3 wr) (fun i _=>m - (intOf i).toNat)
 case atStart=>exact ⟨0,Z,Nat.zero_le _,rfl,HZ.out,fun y hy=>by omega,O.out,K.out⟩
 case round =>
  obtain ⟨k,l,hk,rfl,hl,hall,hown,hb⟩:=hrel
  have ALL:=Lh hall
  have OW:=Lh hown
  have BW:=Lh hb
  have HLE:=Lh hl
  have XR:=Lh (X.out.below (w':=wr) (by rw [← HG.out];exact BW.out))
  clear hall hown hb hl
  by_cases hkm:k < m
  ·have hki:(k:Int) < (m:Int):=by omega
   obtain ⟨c0,c1,c2,c3,c4,c5,d0,d1⟩:=XR.out.cells
   have hwr2:IntKind.i64.wrap (k:Int)=k:=Lib.wrap_i64_small k (by omega)
   have TK:=TO.out k hkm
   rw [HL.out k hkm] at TK
   have PK:=PO.out k hkm
   obtain ⟨f,hf⟩:∃ f,f=fulP T (k:Int).toNat:=⟨_,rfl⟩
   obtain ⟨a,ha⟩:∃ a,a=atP T A p (k:Int):=⟨_,rfl⟩
   obtain ⟨v,hv⟩:∃ v,v=L.getD k 0:=⟨_,rfl⟩
   rw [← hf,← ha] at TK PK
   rw [← hv] at TK
   have TK:=Lh TK
   have PK:=Lh PK
   have HV:=Lh hv
   clear hf ha hv
   go_wp2_with fail
   refine (PK.out _).mono ?_
   rintro e w5 ⟨rfl,hb⟩
   have OW:=Lh (owns_below OW.out hb)
   have BW:=Lh (BW.out.trans (hb.mono (by rw [HG.out];exact BW.out.size)))
   have XR:=Lh (XR.out.below hb)
   obtain ⟨y,hb5⟩:=box_pge w5 p k a f
   have OW:=Lh (owns_below OW.out hb5)
   have BW:=Lh (BW.out.trans (hb5.mono (by rw [HG.out];exact BW.out.size)))
   have XR:=Lh (XR.out.below hb5)
   obtain ⟨q0,q1,q2,q3⟩:=y.pge
   clear hb c0 c1 c2 c3 c4 c5 d0 d1 y hb5 PK
   obtain ⟨c0,c1,c2,c3,c4,c5,d0,d1⟩:=XR.out.cells
   go_wp2_with fail
   refine (TK.out _ XR.out.dsk.dsk).mono ?_
   rintro e w6 ⟨rfl,hb⟩
   have OW:=Lh (owns_below OW.out hb)
   have BW:=Lh (BW.out.trans (hb.mono (by rw [HG.out];exact BW.out.size)))
   clear hb c0 c1 c2 c3 c4 c5 d0 d1 q0 q1 q2 q3 TK XR
   obtain ⟨g1,hg1,_,hc,hf,hset⟩:=owns_int_at OW.out hkm
   injection hg1 with hg1
   injection hg1 with hg1
   subst hg1
   have SET:=Lh (hset v)
   clear hset
   go_wp2
   go_roundw
   case rel =>
    refine ⟨k + 1,l.set k v,by omega,by go_num,by rw [List.length_set];exact HLE.out,fun y hy=>?_,SET.out,BW.out.setCell (p:=⟨g,k,none⟩) (Nat.le_refl _) _⟩
    rw [set_getP (by rw [HLE.out];exact hkm)]
    by_cases hyk:y=k
    ·rw [if_pos hyk,hyk]
     exact HV.out
    ·rw [if_neg hyk]
     exact ALL.out y (by omega)
   case measure=>simp [intOf];omega
  ·obtain rfl:k=m:=by omega
   have hlL:l=L:=lists_yes 0 (by rw [HLE.out,HLL.out]) (fun y hy=>ALL.out y (by rw [← HLE.out];exact hy))
   have FO:=Lh (show wr.ownsRow w.heap.size 5 1 (.slice (some ⟨g,0,none⟩) k k) k (ints .u8 L) by rw [← hlL];exact owns_base OW.out (by rw [HG.out];exact B.out.size))
   have FB:=Lh (B.out.trans (BW.out.mono (by rw [HG.out];exact B.out.size)))
   clear hlL
   go_wp2
   go_ret2
   exact ⟨some ⟨g,0,none⟩,k,by rw [HLL.out];rfl,by rw [HLL.out];exact FO.out,FB.out⟩
theorem pgread_pair (P T A M W Q p:Int) (D:Option Addr) (nd cd:Nat) (D':Option Addr) (nd' cd':Nat) (S:List Sec) (C:List Pnd) (w:World) (hq:Dsk w D nd cd D' nd' cd' S C) (hs:SmallD S C) (ht:mayT P T A M W Q S C) (hp:¬ (0≤p∧p < P)) :
  Calls Try.prog 18 #[cfgV P T A M W Q,diskV D nd cd D' nd' cd',.int .i64 p] w (RowOut .u8 5 w [] 2):=by
 obtain ⟨x,hbel⟩:=TBox.new P T A M W Q hq
 obtain ⟨w1,hw1⟩:∃ x:World,x=(w.alloc (.cells #[.int .i64 P,.int .i64 T,.int .i64 A,.int .i64 M,.int .i64 W,.int .i64 Q] 28)).alloc (.cells #[.slice D nd cd,.slice D' nd' cd'] 56):=⟨_,rfl⟩
 rw [← hw1] at x hbel
 have X:=Lh x
 have B:=Lh hbel
 have hc:=ht.1
 have hpg:=pag_pgs hc
 have hgi:=pag_is hc
 have CK:=Lh (fun wx hx=>tcheck_any P T A M W Q D nd cd D' nd' cd' S C wx hx hs)
 rw [show tcE P T A M W Q S C=0 from if_pos ht] at CK
 have PA:=Lh (fun w':World=>ppagesN_any P T A M W Q w')
 rw [show pagN P T A M W Q=pagC T from if_pos hc,show chkC P T A M W Q=0 from if_pos hc] at PA
 obtain ⟨m,hm⟩:∃ m,m=(pagC T).toNat:=⟨_,rfl⟩
 rw [show pagC T=(m:Int) by omega] at PA
 have hm2:1≤m∧m≤2:=by omega
 have hT:T.toNat≤16:=by unfold mayC at hc;omega
 have MK:=Lh (fun wx:World=>make_none T.toNat hT wx)
 rw [← hpg,← hm] at MK
 have he:pgeE P T A M W Q p (0:Nat)=2:=by rw [pge_in hc (by omega),if_neg hp]
 have PO:=Lh (fun (w':World)=>ppageof_no P T A M W Q p (0:Nat) w' (by rw [he];decide))
 rw [he] at PO
 obtain ⟨c0,c1,c2,c3,c4,c5,d0,d1⟩:=x.cells
 have hm0:(0:Int) < (m:Int):=by omega
 clear hq hs ht hp x hbel hc hpg hgi hT hm he
 go_enter Try.func18,Try.ntmps18
 go_wp2_with fail
 rw [← hw1]
 clear hw1
 refine (CK.out _ X.out.dsk.dsk).mono ?_
 rintro e w2 ⟨rfl,hb⟩
 have B:=Lh (B.out.trans (hb.mono B.out.size))
 have X:=Lh (X.out.below hb)
 clear hb c0 c1 c2 c3 c4 c5 d0 d1 CK
 obtain ⟨c0,c1,c2,c3,c4,c5,d0,d1⟩:=X.out.cells
 go_wp2_with fail
 refine (PA.out _).mono ?_
 rintro e w3 ⟨rfl,hb⟩
 have B:=Lh (B.out.trans (hb.mono B.out.size))
 have X:=Lh (X.out.below hb)
 clear hb c0 c1 c2 c3 c4 c5 d0 d1 PA
 have hmk:=MK.out w3
 have hal:Below w3.heap.size w3 (w3.alloc (.cells (ints .u8 (none0 T.toNat)).toArray 5)):=(Below.refl _ _).alloc (Nat.le_refl _) _
 obtain ⟨w4,hw4⟩:∃ x:World,x=w3.alloc (.cells (ints .u8 (none0 T.toNat)).toArray 5):=⟨_,rfl⟩
 rw [← hw4] at hmk hal
 have B:=Lh (B.out.trans (hal.mono B.out.size))
 have X:=Lh (X.out.below hal)
 clear hal hw4 MK
 go_upto_region 6 with fail
 clear hmk
 go_wp2
 go_loopw [30] (fun i wr=>i=.int .i64 0∧wr=w4) (fun i _=>m - (intOf i).toNat)
 case atStart=>exact ⟨rfl,rfl⟩
 case round =>
  obtain ⟨rfl,rfl⟩:=hrel
  obtain ⟨c0,c1,c2,c3,c4,c5,d0,d1⟩:=X.out.cells
  go_wp2_with fail
  refine (PO.out _).mono ?_
  rintro e w5 ⟨rfl,hb⟩
  have B:=Lh (B.out.trans (hb.mono B.out.size))
  obtain ⟨y,hb5⟩:=box_pge w5 0 0 0 0
  have B:=Lh (B.out.trans (hb5.mono B.out.size))
  clear hb c0 c1 c2 c3 c4 c5 d0 d1 y hb5 PO
  go_wp2
  go_ret2
  exact ⟨none,0,rfl,World.ownsRow_nil _ _ _ _,B.out⟩
theorem pgread_bad (P T A M W Q p:Int) (D:Option Addr) (nd cd:Nat) (D':Option Addr) (nd' cd':Nat) (S:List Sec) (C:List Pnd) (w:World) (hq:Dsk w D nd cd D' nd' cd' S C) (hs:SmallD S C) (ht:¬ mayT P T A M W Q S C) :
  Calls Try.prog 18 #[cfgV P T A M W Q,diskV D nd cd D' nd' cd',.int .i64 p] w (RowOut .u8 5 w [] 8):=by
 obtain ⟨x,hbel⟩:=TBox.new P T A M W Q hq
 obtain ⟨w1,hw1⟩:∃ x:World,x=(w.alloc (.cells #[.int .i64 P,.int .i64 T,.int .i64 A,.int .i64 M,.int .i64 W,.int .i64 Q] 28)).alloc (.cells #[.slice D nd cd,.slice D' nd' cd'] 56):=⟨_,rfl⟩
 rw [← hw1] at x hbel
 have X:=Lh x
 have B:=Lh hbel
 have CK:=Lh (fun wx hx=>tcheck_any P T A M W Q D nd cd D' nd' cd' S C wx hx hs)
 rw [show tcE P T A M W Q S C=8 from if_neg ht] at CK
 obtain ⟨c0,c1,c2,c3,c4,c5,d0,d1⟩:=x.cells
 clear hq hs ht x hbel
 go_enter Try.func18,Try.ntmps18
 go_wp2_with fail
 rw [← hw1]
 clear hw1
 refine (CK.out _ X.out.dsk.dsk).mono ?_
 rintro e w2 ⟨rfl,hb⟩
 have B:=Lh (B.out.trans (hb.mono B.out.size))
 clear hb c0 c1 c2 c3 c4 c5 d0 d1 CK
 go_wp2
 go_ret2
 exact ⟨none,0,rfl,World.ownsRow_nil _ _ _ _,B.out⟩
theorem pgread_any (P T A M W Q p:Int) (D:Option Addr) (nd cd:Nat) (D':Option Addr) (nd' cd':Nat) (S:List Sec) (C:List Pnd) (w:World) (hq:Dsk w D nd cd D' nd' cd' S C) (hs:SmallD S C) :
  Calls Try.prog 18 #[cfgV P T A M W Q,diskV D nd cd D' nd' cd',.int .i64 p] w (RowOut .u8 5 w (mkB P T A M W Q S C p) (mkE P T A M W Q S C p)):=by
 unfold mkB mkE
 by_cases ht:mayT P T A M W Q S C
 ·rw [if_pos ht]
  by_cases hp:0≤p∧p < P
  ·rw [if_pos hp,if_pos rfl]
   exact pgread_yes P T A M W Q p D nd cd D' nd' cd' S C w hq hs ht hp
  ·rw [if_neg hp,if_neg (by decide)]
   exact pgread_pair P T A M W Q p D nd cd D' nd' cd' S C w hq hs ht hp
 ·rw [if_neg ht,if_neg (by decide)]
  exact pgread_bad P T A M W Q p D nd cd D' nd' cd' S C w hq hs ht
set_option maxRecDepth 100000
theorem mk_zero {P T A M W Q p:Int} {S:List Sec} {C:List Pnd} (h:mkE P T A M W Q S C p=0):mayT P T A M W Q S C∧0≤p∧p < P:=by
 unfold mkE at h
 split at h
 ·split at h
  ·rename_i h1 h2;exact ⟨h1,h2⟩
  ·cases h
 ·cases h
end Go.Proofs.Ytdbeiikaeccbhaa
