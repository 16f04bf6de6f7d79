/- Texts of the layers below, joined. -/
import Derived.Test.YtdbeiikaeccbhaaDa12
set_option maxRecDepth 100000
set_option maxHeartbeats 12800000
set_option linter.unusedVariables false
namespace Go.Proofs.Ytdbeiikaeccbhaa
open Go.RowKit
theorem parts_out (P T A M W Q g p t:Int) (w:World) (h:mayC P T A M W Q) (hg:g=pagC T) (hp:p=fP A) (ht:t=fT P T A):Calls Try.prog 84 #[cfgV P T A M W Q] w fun e w'=>e=.returned (.agg #[.int .u8 1,.int .i64 0,.int .i64 1,.int .i64 1,.int .i64 2,.int .u8 2,.int .i64 2,.int .i64 2,.int .i64 A,.int .i64 1,.int .u8 3,.int .i64 p,.int .i64 P,.int .i64 g,.int .i64 1,.int .u8 4,.int .i64 t,.int .i64 P,.int .i64 T,.int .i64 4])∧Below w.heap.size w w':=by
 subst hg;subst hp;subst ht
 exact partsP_any P T A M W Q w h
theorem psectors_any (P T A M W Q:Int) (w:World):Calls Try.prog 62 #[cfgV P T A M W Q] w fun e w'=>e=.returned (.tuple #[.int .i64 (secN P T A M W Q),.int .i64 (chkC P T A M W Q)])∧Below w.heap.size w w':=by
 obtain ⟨x,hbel⟩:=box_cfg w P T A M W Q
 obtain ⟨c0,c1,c2,c3,c4,c5⟩:=x.cfg
 have X:=Lh x
 have BEL:=Lh hbel
 clear x hbel
 have CK:=Lh (fun w':World=>pcheck_any P T A M W Q w')
 by_cases h:mayC P T A M W Q
 ·rw [show chkC P T A M W Q=0 by unfold chkC;rw [if_pos h]] at CK ⊢
  rw [show secN P T A M W Q=fE P T A by unfold secN;rw [if_pos h]]
  have hbd:=bounds_may h
  have e3:=secP_3 P T A
  have q2:0≤fT P T A∧fT P T A≤1000:=by have:=h;unfold mayC at this;unfold fT;omega
  have PA:=Lh (fun w':World=>parts_out P T A M W Q _ _ _ w' h rfl rfl rfl)
  have NE:=Lh (fun w':World=>end_any 4 (fT P T A) P T 4 w' (by omega) (by omega) q2)
  rw [e3] at NE
  obtain ⟨g,hg⟩:∃ g,g=pagC T:=⟨_,rfl⟩
  obtain ⟨p,hp⟩:∃ p,p=fP A:=⟨_,rfl⟩
  obtain ⟨t,ht⟩:∃ t,t=fT P T A:=⟨_,rfl⟩
  obtain ⟨E,hE⟩:∃ E,E=fE P T A:=⟨_,rfl⟩
  rw [← hg,← hp,← ht] at PA
  rw [← ht,← hE] at NE
  rw [← hE]
  have IX:=fun w'=>ix_3 P T A g p t w'
  clear h hbd e3 q2 hg hp ht hE
  go_enter Try.func62,Try.ntmps62
  go_wp2_with fail
  refine (CK.out _).mono ?_
  rintro e w1 ⟨rfl,hb1⟩
  have hb:=hb1
  have X:=Lh (X.out.below (hb.mono (by have:=X.out.lt;omega)) X.out.lt)
  have BEL:=Lh (BEL.out.trans (hb.mono BEL.out.size))
  clear hb hb1 c0 c1 c2 c3 c4 c5
  obtain ⟨c0,c1,c2,c3,c4,c5⟩:=X.out.cfg
  go_wp2_with fail
  refine (PA.out _).mono ?_
  rintro e w2 ⟨rfl,hb2⟩
  have hb:=hb2
  have X:=Lh (X.out.below (hb.mono (by have:=X.out.lt;omega)) X.out.lt)
  have BEL:=Lh (BEL.out.trans (hb.mono BEL.out.size))
  clear hb hb2 c0 c1 c2 c3 c4 c5
  obtain ⟨c0,c1,c2,c3,c4,c5⟩:=X.out.cfg
  go_wp2_with fail
  refine (NE.out _).mono ?_
  rintro e w3 ⟨rfl,hb3⟩
  have hb:=hb3
  have X:=Lh (X.out.below (hb.mono (by have:=X.out.lt;omega)) X.out.lt)
  have BEL:=Lh (BEL.out.trans (hb.mono BEL.out.size))
  clear hb hb3 c0 c1 c2 c3 c4 c5
  obtain ⟨c0,c1,c2,c3,c4,c5⟩:=X.out.cfg
  go_wp2
  go_ret2
  exact ⟨rfl,BEL.out⟩
 ·rw [show chkC P T A M W Q=8 by unfold chkC;rw [if_neg h]] at CK ⊢
  rw [show secN P T A M W Q=0 by unfold secN;rw [if_neg h]]
  clear h
  go_enter Try.func62,Try.ntmps62
  go_wp2_with fail
  refine (CK.out _).mono ?_
  rintro e w1 ⟨rfl,hb1⟩
  have hb:=hb1
  have X:=Lh (X.out.below (hb.mono (by have:=X.out.lt;omega)) X.out.lt)
  have BEL:=Lh (BEL.out.trans (hb.mono BEL.out.size))
  clear hb hb1 c0 c1 c2 c3 c4 c5
  obtain ⟨c0,c1,c2,c3,c4,c5⟩:=X.out.cfg
  go_wp2
  go_ret2
  exact ⟨rfl,BEL.out⟩
theorem ppagesN_any (P T A M W Q:Int) (w:World):Calls Try.prog 36 #[cfgV P T A M W Q] w fun e w'=>e=.returned (.tuple #[.int .i64 (pagN P T A M W Q),.int .i64 (chkC P T A M W Q)])∧Below w.heap.size w w':=by
 obtain ⟨x,hbel⟩:=box_cfg w P T A M W Q
 obtain ⟨c0,c1,c2,c3,c4,c5⟩:=x.cfg
 have X:=Lh x
 have BEL:=Lh hbel
 clear x hbel
 have CK:=Lh (fun w':World=>pcheck_any P T A M W Q w')
 by_cases h:mayC P T A M W Q
 ·rw [show chkC P T A M W Q=0 by unfold chkC;rw [if_pos h]] at CK ⊢
  rw [show pagN P T A M W Q=pagC T by unfold pagN;rw [if_pos h]]
  have PA:=Lh (fun w':World=>ppages_any P T A M W Q w' h.2.2.1 h.2.2.2.1)
  obtain ⟨g,hg⟩:∃ g,g=pagC T:=⟨_,rfl⟩
  rw [← hg] at PA ⊢
  clear h hg
  go_enter Try.func36,Try.ntmps36
  go_wp2_with fail
  refine (CK.out _).mono ?_
  rintro e w1 ⟨rfl,hb1⟩
  have hb:=hb1
  have X:=Lh (X.out.below (hb.mono (by have:=X.out.lt;omega)) X.out.lt)
  have BEL:=Lh (BEL.out.trans (hb.mono BEL.out.size))
  clear hb hb1 c0 c1 c2 c3 c4 c5
  obtain ⟨c0,c1,c2,c3,c4,c5⟩:=X.out.cfg
  go_wp2_with fail
  refine (PA.out _).mono ?_
  rintro e w2 ⟨rfl,hb2⟩
  have hb:=hb2
  have X:=Lh (X.out.below (hb.mono (by have:=X.out.lt;omega)) X.out.lt)
  have BEL:=Lh (BEL.out.trans (hb.mono BEL.out.size))
  clear hb hb2 c0 c1 c2 c3 c4 c5
  obtain ⟨c0,c1,c2,c3,c4,c5⟩:=X.out.cfg
  go_wp2
  go_ret2
  exact ⟨rfl,BEL.out⟩
 ·rw [show chkC P T A M W Q=8 by unfold chkC;rw [if_neg h]] at CK ⊢
  rw [show pagN P T A M W Q=0 by unfold pagN;rw [if_neg h]]
  clear h
  go_enter Try.func36,Try.ntmps36
  go_wp2_with fail
  refine (CK.out _).mono ?_
  rintro e w1 ⟨rfl,hb1⟩
  have hb:=hb1
  have X:=Lh (X.out.below (hb.mono (by have:=X.out.lt;omega)) X.out.lt)
  have BEL:=Lh (BEL.out.trans (hb.mono BEL.out.size))
  clear hb hb1 c0 c1 c2 c3 c4 c5
  obtain ⟨c0,c1,c2,c3,c4,c5⟩:=X.out.cfg
  go_wp2
  go_ret2
  exact ⟨rfl,BEL.out⟩
theorem psector2_any (P T A M W Q a n:Int) (w:World):Calls Try.prog 75 #[cfgV P T A M W Q,.int .i64 2,.int .i64 a,.int .i64 n] w fun e w'=>e=.returned (.tuple #[.int .i64 (pgeN P T A M W Q a n),.int .i64 (pgeE P T A M W Q a n)])∧Below w.heap.size w w':=by
 obtain ⟨x,hbel⟩:=box_cfg w P T A M W Q
 obtain ⟨c0,c1,c2,c3,c4,c5⟩:=x.cfg
 have X:=Lh x
 have BEL:=Lh hbel
 clear x hbel
 have CK:=Lh (fun w':World=>pcheck_any P T A M W Q w')
 by_cases h:mayC P T A M W Q
 ·rw [show chkC P T A M W Q=0 by unfold chkC;rw [if_pos h]] at CK
  have hbd:=bounds_may h
  have hm:=h
  have hfe:=fE_le h
  have q2:0≤fT P T A∧fT P T A≤1000:=by have:=h;unfold mayC at this;unfold fT;omega
  have q1:0≤fP A∧fP A≤1000:=by have:=h;unfold mayC at this;unfold fP;omega
  have PA:=Lh (fun w':World=>parts_out P T A M W Q _ _ _ w' h rfl rfl rfl)
  obtain ⟨h1,h2,h3,h4,h5,h6,h7⟩:=h
  by_cases k0:(0≤a∧a≤P - 1)∧(0≤n∧n≤pagC T - 1)
  ·obtain ⟨k1,k2⟩:=k0
   have hmul:-10000≤a * pagC T∧a * pagC T≤10000:=by rcases mul3 k1.1 (by omega) (pagC T) with q | q | q | q <;> omega
   have SE:=Lh (fun w':World=>sector_any 3 (fP A) P (pagC T) 1 a n w' hmul (by omega) (by omega) q1)
   have hv:secP (fP A) (pagC T) 1 a n=fP A + a * pagC T + n:=by unfold secP;omega
   rw [hv] at SE
   rw [show pgeN P T A M W Q a n=fP A + a * pagC T + n by unfold pgeN;rw [if_pos hm,if_pos (by omega)],show pgeE P T A M W Q a n=0 by unfold pgeE;rw [if_pos hm,if_pos (by omega)]]
   obtain ⟨v,hv2⟩:∃ v,v=fP A + a * pagC T + n:=⟨_,rfl⟩
   rw [← hv2] at SE ⊢
   obtain ⟨g,hg⟩:∃ g,g=pagC T:=⟨_,rfl⟩
   obtain ⟨p,hp⟩:∃ p,p=fP A:=⟨_,rfl⟩
   obtain ⟨t,ht⟩:∃ t,t=fT P T A:=⟨_,rfl⟩
   rw [← hg,← hp,← ht] at PA
   try rw [← hg] at k2
   try rw [← hg] at SE
   try rw [← hp] at SE
   try rw [← ht] at SE
   have b3:1≤g∧g≤2:=by omega
   have K1:=Lh k1
   have K2:=Lh k2
   have IX:=fun w'=>ix_2 P T A g p t w'
   clear hm hbd hfe q1 q2 h7 hmul hv hv2 hg hp ht k1 k2
   go_enter Try.func75,Try.ntmps75
   go_wp2_with fail
   refine (CK.out _).mono ?_
   rintro e w1 ⟨rfl,hb1⟩
   have hb:=hb1
   have X:=Lh (X.out.below (hb.mono (by have:=X.out.lt;omega)) X.out.lt)
   have BEL:=Lh (BEL.out.trans (hb.mono BEL.out.size))
   clear hb hb1 c0 c1 c2 c3 c4 c5
   obtain ⟨c0,c1,c2,c3,c4,c5⟩:=X.out.cfg
   go_wp2_with fail
   refine (PA.out _).mono ?_
   rintro e w2 ⟨rfl,hb2⟩
   have hb:=hb2
   have X:=Lh (X.out.below (hb.mono (by have:=X.out.lt;omega)) X.out.lt)
   have BEL:=Lh (BEL.out.trans (hb.mono BEL.out.size))
   clear hb hb2 c0 c1 c2 c3 c4 c5
   obtain ⟨c0,c1,c2,c3,c4,c5⟩:=X.out.cfg
   obtain ⟨y,hby⟩:=box_part w2 3 p P g 1
   obtain ⟨d0,d1,d2,d3,d4⟩:=y.part
   have Y:=Lh y
   have X:=Lh (X.out.below (hby.mono (Nat.le_refl _)) X.out.lt)
   have BEL:=Lh (BEL.out.trans (hby.mono BEL.out.size))
   clear y hby
   go_wp2_with fail
   refine (within2_yes a 0 (P - 1) n 0 (g - 1) (w2.heap.size + 1) _ (w2.alloc (.cells #[.int .u8 3,.int .i64 p,.int .i64 P,.int .i64 g,.int .i64 1] 132)) (by simp) K1.out K2.out).mono ?_
   rintro e w4 ⟨rfl,hb4⟩
   have Y:=Lh (Y.out.below hb4 Y.out.lt)
   have BEL:=Lh (BEL.out.trans (hb4.mono BEL.out.size))
   clear hb4 d0 d1 d2 d3 d4
   obtain ⟨d0,d1,d2,d3,d4⟩:=Y.out.part
   go_wp2_with fail
   refine (SE.out _).mono ?_
   rintro e w5 ⟨rfl,hb5⟩
   have BEL:=Lh (BEL.out.trans (hb5.mono BEL.out.size))
   clear hb5
   go_wp2
   go_ret2
   exact ⟨rfl,BEL.out⟩
  ·rw [show pgeN P T A M W Q a n=0 by unfold pgeN;rw [if_pos hm,if_neg (by omega)],show pgeE P T A M W Q a n=2 by unfold pgeE;rw [if_pos hm,if_neg (by omega)]]
   obtain ⟨g,hg⟩:∃ g,g=pagC T:=⟨_,rfl⟩
   obtain ⟨p,hp⟩:∃ p,p=fP A:=⟨_,rfl⟩
   obtain ⟨t,ht⟩:∃ t,t=fT P T A:=⟨_,rfl⟩
   rw [← hg,← hp,← ht] at PA
   try rw [← hg] at k0
   have b3:1≤g∧g≤2:=by omega
   have K0:=Lh k0
   have IX:=fun w'=>ix_2 P T A g p t w'
   clear hm hbd hfe q1 q2 h7 hg hp ht k0
   go_enter Try.func75,Try.ntmps75
   go_wp2_with fail
   refine (CK.out _).mono ?_
   rintro e w1 ⟨rfl,hb1⟩
   have hb:=hb1
   have X:=Lh (X.out.below (hb.mono (by have:=X.out.lt;omega)) X.out.lt)
   have BEL:=Lh (BEL.out.trans (hb.mono BEL.out.size))
   clear hb hb1 c0 c1 c2 c3 c4 c5
   obtain ⟨c0,c1,c2,c3,c4,c5⟩:=X.out.cfg
   go_wp2_with fail
   refine (PA.out _).mono ?_
   rintro e w2 ⟨rfl,hb2⟩
   have hb:=hb2
   have X:=Lh (X.out.below (hb.mono (by have:=X.out.lt;omega)) X.out.lt)
   have BEL:=Lh (BEL.out.trans (hb.mono BEL.out.size))
   clear hb hb2 c0 c1 c2 c3 c4 c5
   obtain ⟨c0,c1,c2,c3,c4,c5⟩:=X.out.cfg
   obtain ⟨y,hby⟩:=box_part w2 3 p P g 1
   obtain ⟨d0,d1,d2,d3,d4⟩:=y.part
   have Y:=Lh y
   have X:=Lh (X.out.below (hby.mono (Nat.le_refl _)) X.out.lt)
   have BEL:=Lh (BEL.out.trans (hby.mono BEL.out.size))
   clear y hby
   go_wp2_with fail
   refine (within2_no a 0 (P - 1) n 0 (g - 1) (w2.heap.size + 1) _ (w2.alloc (.cells #[.int .u8 3,.int .i64 p,.int .i64 P,.int .i64 g,.int .i64 1] 132)) (by simp) K0.out).mono ?_
   rintro e w4 ⟨rfl,hb4⟩
   have Y:=Lh (Y.out.below hb4 Y.out.lt)
   have BEL:=Lh (BEL.out.trans (hb4.mono BEL.out.size))
   clear hb4 d0 d1 d2 d3 d4
   obtain ⟨d0,d1,d2,d3,d4⟩:=Y.out.part
   go_wp2
   go_ret2
   exact ⟨rfl,BEL.out⟩
 ·rw [show chkC P T A M W Q=8 by unfold chkC;rw [if_neg h]] at CK
  rw [show pgeN P T A M W Q a n=0 by unfold pgeN;rw [if_neg h],show pgeE P T A M W Q a n=8 by unfold pgeE;rw [if_neg h]]
  clear h
  go_enter Try.func75,Try.ntmps75
  go_wp2_with fail
  refine (CK.out _).mono ?_
  rintro e w1 ⟨rfl,hb1⟩
  have hb:=hb1
  have X:=Lh (X.out.below (hb.mono (by have:=X.out.lt;omega)) X.out.lt)
  have BEL:=Lh (BEL.out.trans (hb.mono BEL.out.size))
  clear hb hb1 c0 c1 c2 c3 c4 c5
  obtain ⟨c0,c1,c2,c3,c4,c5⟩:=X.out.cfg
  go_wp2
  go_ret2
  exact ⟨rfl,BEL.out⟩
theorem ppage_any (P T A M W Q a n:Int) (w:World):Calls Try.prog 44 #[cfgV P T A M W Q,.int .i64 a,.int .i64 n] w fun e w'=>e=.returned (.tuple #[.int .i64 (pgeN P T A M W Q a n),.int .i64 (pgeE P T A M W Q a n)])∧Below w.heap.size w w':=by
 obtain ⟨x,hbel⟩:=box_cfg w P T A M W Q
 obtain ⟨c0,c1,c2,c3,c4,c5⟩:=x.cfg
 have X:=Lh x
 have BEL:=Lh hbel
 clear x hbel
 have SE:=Lh (fun w':World=>psector2_any P T A M W Q a n w')
 obtain ⟨x,hx⟩:∃ x,x=pgeN P T A M W Q a n:=⟨_,rfl⟩
 obtain ⟨y,hy⟩:∃ y,y=pgeE P T A M W Q a n:=⟨_,rfl⟩
 rw [← hx,← hy] at SE ⊢
 clear hx hy
 go_enter Try.func44,Try.ntmps44
 go_wp2_with fail
 refine (SE.out _).mono ?_
 rintro e w1 ⟨rfl,hb1⟩
 have hb:=hb1
 have X:=Lh (X.out.below (hb.mono (by have:=X.out.lt;omega)) X.out.lt)
 have BEL:=Lh (BEL.out.trans (hb.mono BEL.out.size))
 clear hb hb1 c0 c1 c2 c3 c4 c5
 obtain ⟨c0,c1,c2,c3,c4,c5⟩:=X.out.cfg
 go_wp2
 go_ret2
 exact ⟨rfl,BEL.out⟩
end Go.Proofs.Ytdbeiikaeccbhaa
