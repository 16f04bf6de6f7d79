/- Texts of layers 1 to 12, joined. -/
import Derived.Test.YtifgcfepbenpjaaGreatNb50
set_option maxRecDepth 100000
set_option maxHeartbeats 12800000
set_option linter.unusedVariables false
namespace Go.Proofs.YtifgcfepbenpjaaGreat
open Go.RowKit
theorem laid_arg (w:World) (zs:List Int) (n:Nat) (hn:zs.length=n) (hm:n≤maxLen):Arg (w.alloc (.cells (ints .u8 zs).toArray 5)) .u8 (some ⟨w.heap.size,0,none⟩) n n zs :=
 ⟨(lit_seq w 5 .u8 zs).more (by simp),hn,Nat.le_refl _,hm⟩
theorem mnames_of (w:World):Calls Tryz.prog 3 #[] w fun e w'=>e=.returned (.bool true)∧Below w.heap.size w w':=by
 have TW:=Lh (fun wx:World=>two12_any wx)
 have BO:=Lh (fun wx:World=>booted12_any 2 9 4 2 2 8 wx (by unfold mayC;decide))
 have AV:=Lh (fun wx:World=>alive12_any wx)
 go_enter Tryz.func3,Tryz.ntmps3
 go_wp2_with fail
 refine (TW.out _).mono ?_
 rintro e w1 ⟨rfl,hb1⟩
 go_wp2_with fail
 refine (BO.out _).mono ?_
 rintro e w2 ⟨S,D,d,D',d',B0,k0,rfl,hd0,hs0,hr0,hi0,hb2⟩
 have B:=Lh (hb1.trans (hb2.mono hb1.size))
 have HD:=Lh (hd0.lower hb1.size)
 have HS:=Lh hs0
 have HR:=Lh (hr0.lower hb1.size)
 have HI:=Lh hi0
 clear hb1 hb2 hd0 hs0 hr0 hi0 BO
 have IS:=Lh (HI.out.sup (by decide))
 have IL:isS (4294967295,0,0):=⟨⟨by decide,by decide⟩,⟨by decide,by decide⟩⟩
 have EB:=Lh (nm_bad HI.out)
 have EF:=Lh (nm_full HI.out)
 have EL:=Lh (nm_boot HI.out)
 have EO:=Lh (HI.out.bo (by decide))
 have EI:=Lh (HI.out.orderly (by decide))
 obtain ⟨hE,hO,hL,S',hdn,hi1⟩:=nm_good HI.out
 have OL:=Lh (nm_old hi1)
 have OE:=Lh (bo_yes hi1.R.may (HI.out.may (by decide)))
 have NO:=Lh (hi1.orderly (by decide))
 have NE:=Lh (hi1.bo (by decide))
 obtain ⟨T,hT⟩:∃ y,y=recT (noteR 0 1):=⟨_,rfl⟩
 have TB:=Lh (show ∀ z ∈ T,isByte z by rw [hT];exact recT_byte _)
 have NT:=Lh (fun wx=>note12_any 0 1 wx (by decide) (by decide))
 rw [← hT] at NT EF hE hO hL hdn
 have P1:=Lh (fun Ab cb wx hx hy hz=>pcommit12_any 2 9 4 2 2 8 D S.length d D' 0 d' S [] 1 0 0 0 0 B0 0 k0 [] Ab 1 cb [1] wx hx HS.out IS.out hy (by decide) hz (by intro z hz;rw [List.mem_singleton.1 hz];exact ⟨by decide,by decide⟩) (by decide))
 have P2:=Lh (fun Ab cb wx hx hy hz=>pcommit12_any 2 9 4 2 2 8 D S.length d D' 0 d' S [] 1 0 0 4 65535 B0 0 k0 [] Ab 14 cb T wx hx HS.out IS.out hy (by decide) hz TB.out (by decide))
 have P3:=Lh (fun Ab cb wx hx hy hz=>pcommit12_any 2 9 4 2 2 8 D S.length d D' 0 d' S [] 1 0 0 0 0 B0 0 k0 [] Ab 14 cb T wx hx HS.out IS.out hy (by decide) hz TB.out (by decide))
 have PB:=Lh (fun wx hx hy=>pboot12_any 2 9 4 2 2 8 D S.length d D' 0 d' S [] 4294967295 0 0 0 0 B0 0 k0 [] wx hx HS.out IL hy (by decide))
 have PO:=Lh (fun wx=>popen12_any 2 9 4 2 2 8 none 0 0 none 0 0 [] [] wx (Dsk.of_own (OwnDsk.nil wx 0)) ⟨by decide,by decide,fun s hs=>absurd hs List.not_mem_nil,fun p hp=>absurd hp List.not_mem_nil⟩)
 have PR:=Lh (fun wx hx hy=>porderly_any 2 9 4 2 2 8 D S.length d D' 0 d' S [] 1 0 0 0 0 B0 0 k0 [] wx hx HS.out IS.out hy (by decide))
 have PK:=Lh (fun wx hx=>pcheck12_any 2 9 4 2 2 8 1 0 0 5 0 B0 0 k0 [] wx hx (by decide))
 rw [EB.out] at P1
 rw [EF.out] at P2
 rw [hE,hO,hL] at P3
 rw [EL.out] at PB
 rw [nm_none] at PO
 rw [EO.out,EI.out] at PR
 rw [nm_wrong] at PK
 unfold PlanOutB at P1 P2 P3 PB
 unfold MetOut at PO
 dsimp only [List.length_cons,List.length_nil,Nat.zero_add,Nat.reduceAdd] at P3
 obtain ⟨L,hLL⟩:∃ y:List Ac,y=[(1,2,jT 0 0 T),(2,0,[])]:=⟨_,rfl⟩
 rw [← hLL] at P3 hdn
 clear hLL hL hE hO EB EF EL EO EI IL hT
 obtain ⟨m1,hm1⟩:∃ y,y=cmO 2 9 4 2 2 8 S [] ⟨(1,0,0),0,0,[]⟩ [1]:=⟨_,rfl⟩
 obtain ⟨l1,hl1⟩:∃ y,y=cmL 2 9 4 2 2 8 S [] ⟨(1,0,0),0,0,[]⟩ [1]:=⟨_,rfl⟩
 rw [← hm1,← hl1] at P1
 obtain ⟨m2,hm2⟩:∃ y,y=cmO 2 9 4 2 2 8 S [] ⟨(1,0,0),4,65535,[]⟩ T:=⟨_,rfl⟩
 obtain ⟨l2,hl2⟩:∃ y,y=cmL 2 9 4 2 2 8 S [] ⟨(1,0,0),4,65535,[]⟩ T:=⟨_,rfl⟩
 rw [← hm2,← hl2] at P2
 obtain ⟨m3,hm3⟩:∃ y,y=bootM 2 9 4 2 2 8 S [] ⟨(4294967295,0,0),0,0,[]⟩:=⟨_,rfl⟩
 obtain ⟨l3,hl3⟩:∃ y,y=bootA 2 9 4 2 2 8 S [] ⟨(4294967295,0,0),0,0,[]⟩:=⟨_,rfl⟩
 rw [← hm3,← hl3] at PB
 obtain ⟨m4,hm4⟩:∃ y,y=moV 2 9 4 2 2 8 [] []:=⟨_,rfl⟩
 rw [← hm4] at PO
 clear hm1 hl1 hm2 hl2 hm3 hl3 hm4
 obtain ⟨⟨a1,a2,a3⟩,a4,a5,at_⟩:=m1
 obtain ⟨⟨b1,b2,b3⟩,b4,b5,bt⟩:=m2
 obtain ⟨⟨c1,c2,c3⟩,c4,c5,ct⟩:=m3
 obtain ⟨⟨e1,e2,e3⟩,e4,e5,et⟩:=m4
 dsimp only at P1 P2 PB PO
 obtain ⟨ka,hka⟩:∃ y,y=at_.length:=⟨_,rfl⟩
 obtain ⟨kb,hkb⟩:∃ y,y=bt.length:=⟨_,rfl⟩
 obtain ⟨kc,hkc⟩:∃ y,y=ct.length:=⟨_,rfl⟩
 obtain ⟨ke,hke⟩:∃ y,y=et.length:=⟨_,rfl⟩
 obtain ⟨n1,hn1⟩:∃ y,y=l1.length:=⟨_,rfl⟩
 obtain ⟨n2,hn2⟩:∃ y,y=l2.length:=⟨_,rfl⟩
 obtain ⟨n3,hn3⟩:∃ y,y=l3.length:=⟨_,rfl⟩
 rw [← hka,← hn1] at P1
 rw [← hkb,← hn2] at P2
 rw [← hkc,← hn3] at PB
 rw [← hke] at PO
 clear hka hkb hkc hke hn1 hn2 hn3
 have HDN:=Lh hdn
 clear hdn hi1 HI
 obtain ⟨nS,hnS⟩:∃ y,y=S.length:=⟨_,rfl⟩
 obtain ⟨nS',hnS'⟩:∃ y,y=S'.length:=⟨_,rfl⟩
 have HNS:=Lh hnS
 have HNS':=Lh hnS'
 clear hnS hnS'
 rw [← HNS.out] at HD P1 P2 P3 PB PR ⊢
 go_upto_region 2 with fail
 have hY:=Blk.new w2 25 [.slice D nS d,.slice D' 0 d']
 have hk:Below w2.heap.size w2 (w2.alloc (.cells #[.slice D nS d,.slice D' 0 d'] 25)):=(Below.refl _ _).alloc (Nat.le_refl _) _
 have B:=Lh (B.out.trans (hk.mono B.out.size))
 have HD:=Lh (HD.out.below hk)
 have HR:=Lh (HR.out.below hk)
 have XD:=Lh hY
 clear hY hk
 obtain ⟨v3,hv⟩:∃ y,y=w2.alloc (.cells #[.slice D nS d,.slice D' 0 d'] 25):=⟨_,rfl⟩
 have hsz:v3.heap.size=w2.heap.size + 1:=by rw [hv];simp
 rw [← hv] at B HD HR XD
 (try rw [← hv])
 clear hv
 obtain ⟨hY,hk⟩:=met_box v3 1 0 0 0 0 B0 0 k0
 have B:=Lh (B.out.trans (hk.mono B.out.size))
 have HD:=Lh (HD.out.below hk)
 have HR:=Lh (HR.out.below hk)
 have XD:=Lh (XD.out.below hk XD.out.lt)
 have XM:=Lh hY
 clear hY hk
 rw [hsz] at XM
 clear hsz
 obtain ⟨v4,hv⟩:∃ y,y=v3.alloc (.cells #[.int .u32 1,.int .i64 0,.int .u64 0,.int .i64 0,.int .i64 0,.slice B0 0 k0] 32):=⟨_,rfl⟩
 rw [← hv] at B HD HR XD XM
 (try rw [← hv])
 clear hv
 refine wp_region_upto2 rfl 13 (fun a0 f ax wx=>∃ x0 x1 x2 x3 x4 x5 x6 x7 x8 x9 x10 x11 x12:Value,ax=((((((((((((a0.put (some 36) x0).put (some 37) x1).put (some 38) x2).put (some 39) x3).put (some 40) x4).put (some 35) x5).put (some 41) x6).put (some 42) x7).put (some 43) x8).put (some 4) x9).put (some 5) x11).put (some 6) x12)∧Below v4.heap.size v4 wx∧(∀ jq,f jq=true→(([(Cl.is (cfgV 2 9 4 2 2 8)),(Cl.is (.agg #[.slice D nS d,.slice D' 0 d'])),(Cl.is (.agg #[.int .u32 1,.int .i64 0,.int .u64 0,.int .i64 0,.int .i64 0,.slice B0 0 k0])),(clArg (fun A7 c7=>.slice A7 1 c7) 1 [1]),(clPlan (fun A8 c8 A9 c9=>.tuple #[metV a1 a2 a3 a4 a5 A8 ka c8,.slice A9 n1 c9,.int .i64 110]) w.heap.size ka at_ n1 l1),(clPlan (fun A8 c8 A9 c9=>.tuple #[metV a1 a2 a3 a4 a5 A8 ka c8,.slice A9 n1 c9,.int .i64 110]) w.heap.size ka at_ n1 l1),(clRecs (fun A8 c8=>metV a1 a2 a3 a4 a5 A8 ka c8) w.heap.size ka at_),(clActs (fun A9 c9=>.slice A9 n1 c9) w.heap.size n1 l1),(Cl.is (.int .i64 110)),(Cl.any),(Cl.any),(clActs (fun A9 c9=>.slice A9 n1 c9) w.heap.size n1 l1),(Cl.is (.int .i64 110))]:List (Cl stM)).getD jq Cl.any).p ([x0,x1,x2,x3,x4,x5,x6,x7,x8,x9,x10,x11,x12].getD jq undef) wx)∧BoxS 9 10 v4.heap.size 32 (metL 0 0 0 0 0 none 0 0) (fun wx h=>True) f x9 wx) (by decide) (by kernel_rfl) ?_ ?_ ?_
 ·exact ⟨undef,undef,undef,undef,undef,undef,undef,undef,undef,undef,undef,undef,undef,(by simp only [Act.put,stA,scZ,scS]),(Below.refl _ _).drew,(fun j h=>(by cases h)),BoxS.start⟩
 ·refine ⟨⟨⟨⟨⟨⟨⟨⟨⟨⟨⟨⟨⟨trivial,?_⟩,?_⟩,?_⟩,?_⟩,?_⟩,?_⟩,?_⟩,?_⟩,?_⟩,?_⟩,?_⟩,?_⟩,?_⟩
  ·as_aux_lemma =>
   intro f ax wx hJ hf hd K' hK
   obtain ⟨x0,x1,x2,x3,x4,x5,x6,x7,x8,x9,x10,x11,x12,hax,hB,hp,hq⟩:=hJ
   simp only [Act.put,stA,scZ,scS] at hax
   subst hax
   have HK:=Lh hK
   have HP:=Lh hp
   have HQ:=Lh hq
   have HF:=Lh hf
   clear hK hp hq hf hd
   go_simp
   go_wp2_with (go_at_call 9;refine (TW.out _).mono ?_;rintro e w3 ⟨rfl,hb⟩)
   exact HK.out _ _ ⟨cfgV 2 9 4 2 2 8,x1,x2,x3,x4,x5,x6,x7,x8,x9,x10,x11,x12,(by simp only [Act.put,stA,scZ,scS]),hB.trans (hb.mono hB.size),stepB [x0,x1,x2,x3,x4,x5,x6,x7,x8,x9,x10,x11,x12] 0 (cfgV 2 9 4 2 2 8) hb HP.out (by simp) rfl,HQ.out.grow (by decide) (by decide) hb (fun g k=>(trivial))⟩
  ·as_aux_lemma =>
   intro f ax wx hJ hf hd K' hK
   obtain ⟨x0,x1,x2,x3,x4,x5,x6,x7,x8,x9,x10,x11,x12,hax,hB,hp,hq⟩:=hJ
   simp only [Act.put,stA,scZ,scS] at hax
   subst hax
   have HK:=Lh hK
   have HP:=Lh hp
   have HQ:=Lh hq
   have HF:=Lh hf
   clear hK hp hq hf hd
   obtain ⟨XD_0,XD_1⟩:=(XD.out.below hB XD.out.lt).two_
   go_simp
   exact HK.out _ _ ⟨x0,.agg #[.slice D nS d,.slice D' 0 d'],x2,x3,x4,x5,x6,x7,x8,x9,x10,x11,x12,(by simp only [Act.put,stA,scZ,scS]),hB,stepP [x0,x1,x2,x3,x4,x5,x6,x7,x8,x9,x10,x11,x12] 1 (.agg #[.slice D nS d,.slice D' 0 d']) HP.out (by simp) rfl,HQ.out.pure (by decide) (by decide)⟩
  ·as_aux_lemma =>
   intro f ax wx hJ hf hd K' hK
   obtain ⟨x0,x1,x2,x3,x4,x5,x6,x7,x8,x9,x10,x11,x12,hax,hB,hp,hq⟩:=hJ
   simp only [Act.put,stA,scZ,scS] at hax
   subst hax
   have HK:=Lh hK
   have HP:=Lh hp
   have HQ:=Lh hq
   have HF:=Lh hf
   clear hK hp hq hf hd
   obtain ⟨XM_0,XM_1,XM_2,XM_3,XM_4,XM_5⟩:=(XM.out.below hB XM.out.lt).met
   go_simp
   exact HK.out _ _ ⟨x0,x1,.agg #[.int .u32 1,.int .i64 0,.int .u64 0,.int .i64 0,.int .i64 0,.slice B0 0 k0],x3,x4,x5,x6,x7,x8,x9,x10,x11,x12,(by simp only [Act.put,stA,scZ,scS]),hB,stepP [x0,x1,x2,x3,x4,x5,x6,x7,x8,x9,x10,x11,x12] 2 (.agg #[.int .u32 1,.int .i64 0,.int .u64 0,.int .i64 0,.int .i64 0,.slice B0 0 k0]) HP.out (by simp) rfl,HQ.out.pure (by decide) (by decide)⟩
  ·as_aux_lemma =>
   intro f ax wx hJ hf hd K' hK
   obtain ⟨x0,x1,x2,x3,x4,x5,x6,x7,x8,x9,x10,x11,x12,hax,hB,hp,hq⟩:=hJ
   simp only [Act.put,stA,scZ,scS] at hax
   subst hax
   have HK:=Lh hK
   have HP:=Lh hp
   have HQ:=Lh hq
   have HF:=Lh hf
   clear hK hp hq hf hd
   go_simp
   exact HK.out _ _ ⟨x0,x1,x2,.slice (some ⟨wx.heap.size,0,none⟩) 1 1,x4,x5,x6,x7,x8,x9,x10,x11,x12,(by simp only [Act.put,stA,scZ,scS]),hB.trans (((Below.refl _ _).alloc (Nat.le_refl _) _).mono hB.size),stepB [x0,x1,x2,x3,x4,x5,x6,x7,x8,x9,x10,x11,x12] 3 (.slice (some ⟨wx.heap.size,0,none⟩) 1 1) ((Below.refl _ _).alloc (Nat.le_refl _) _) HP.out (by simp) ⟨_,1,rfl,laid_arg wx [1] 1 rfl (by decide)⟩,HQ.out.grow (by decide) (by decide) ((Below.refl _ _).alloc (Nat.le_refl _) _) (fun g k=>(trivial))⟩
  ·as_aux_lemma =>
   intro f ax wx hJ hf hd K' hK
   obtain ⟨x0,x1,x2,x3,x4,x5,x6,x7,x8,x9,x10,x11,x12,hax,hB,hp,hq⟩:=hJ
   simp only [Act.put,stA,scZ,scS] at hax
   subst hax
   have HK:=Lh hK
   have e0:x0=cfgV 2 9 4 2 2 8:=hp 0 (deps_at (k:=0) rfl rfl rfl hd)
   subst e0
   have e1:x1=.agg #[.slice D nS d,.slice D' 0 d']:=hp 1 (deps_at (k:=1) rfl rfl rfl hd)
   subst e1
   have e2:x2=.agg #[.int .u32 1,.int .i64 0,.int .u64 0,.int .i64 0,.int .i64 0,.slice B0 0 k0]:=hp 2 (deps_at (k:=2) rfl rfl rfl hd)
   subst e2
   obtain ⟨A7,c7,e3,f3⟩:=hp 3 (deps_at (k:=3) rfl rfl rfl hd)
   subst e3
   have F3:=Lh f3
   clear f3
   have HP:=Lh hp
   have HQ:=Lh hq
   have HF:=Lh hf
   clear hK hp hq hf hd
   go_simp
   go_wp2_with (go_at_call 10;refine (P1.out _ _ _ (Dsk.of_own (HD.out.below hB)) (Recs.of_own (HR.out.below hB)) F3.out).mono ?_;rintro e w3 ⟨A8,c8,A9,c9,rfl,hown,hacts,hb⟩)
   exact HK.out _ _ ⟨cfgV 2 9 4 2 2 8,.agg #[.slice D nS d,.slice D' 0 d'],.agg #[.int .u32 1,.int .i64 0,.int .u64 0,.int .i64 0,.int .i64 0,.slice B0 0 k0],.slice A7 1 c7,.tuple #[metV a1 a2 a3 a4 a5 A8 ka c8,.slice A9 n1 c9,.int .i64 110],x5,x6,x7,x8,x9,x10,x11,x12,(by simp only [Act.put,stA,scZ,scS]),hB.trans (hb.mono hB.size),stepB [cfgV 2 9 4 2 2 8,.agg #[.slice D nS d,.slice D' 0 d'],.agg #[.int .u32 1,.int .i64 0,.int .u64 0,.int .i64 0,.int .i64 0,.slice B0 0 k0],.slice A7 1 c7,x4,x5,x6,x7,x8,x9,x10,x11,x12] 4 (.tuple #[metV a1 a2 a3 a4 a5 A8 ka c8,.slice A9 n1 c9,.int .i64 110]) hb HP.out (by simp) ⟨A8,c8,A9,c9,rfl,hown.lower (Nat.le_trans B.out.size hB.size),hacts.lower (Nat.le_trans B.out.size hB.size)⟩,HQ.out.grow (by decide) (by decide) hb (fun g k=>(trivial))⟩
  ·as_aux_lemma =>
   intro f ax wx hJ hf hd K' hK
   obtain ⟨x0,x1,x2,x3,x4,x5,x6,x7,x8,x9,x10,x11,x12,hax,hB,hp,hq⟩:=hJ
   simp only [Act.put,stA,scZ,scS] at hax
   subst hax
   have HK:=Lh hK
   obtain ⟨A8,c8,A9,c9,e4,f4⟩:=hp 4 (deps_at (k:=0) rfl rfl rfl hd)
   subst e4
   have F4:=Lh f4
   clear f4
   have HP:=Lh hp
   have HQ:=Lh hq
   have HF:=Lh hf
   clear hK hp hq hf hd
   go_simp
   exact HK.out _ _ ⟨x0,x1,x2,x3,.tuple #[metV a1 a2 a3 a4 a5 A8 ka c8,.slice A9 n1 c9,.int .i64 110],.tuple #[metV a1 a2 a3 a4 a5 A8 ka c8,.slice A9 n1 c9,.int .i64 110],x6,x7,x8,x9,x10,x11,x12,(by simp only [Act.put,stA,scZ,scS]),hB,stepP [x0,x1,x2,x3,.tuple #[metV a1 a2 a3 a4 a5 A8 ka c8,.slice A9 n1 c9,.int .i64 110],x5,x6,x7,x8,x9,x10,x11,x12] 5 (.tuple #[metV a1 a2 a3 a4 a5 A8 ka c8,.slice A9 n1 c9,.int .i64 110]) HP.out (by simp) ⟨A8,c8,A9,c9,rfl,F4.out⟩,HQ.out.pure (by decide) (by decide)⟩
  ·as_aux_lemma =>
   intro f ax wx hJ hf hd K' hK
   obtain ⟨x0,x1,x2,x3,x4,x5,x6,x7,x8,x9,x10,x11,x12,hax,hB,hp,hq⟩:=hJ
   simp only [Act.put,stA,scZ,scS] at hax
   subst hax
   have HK:=Lh hK
   obtain ⟨A8,c8,A9,c9,e5,f5⟩:=hp 5 (deps_at (k:=0) rfl rfl rfl hd)
   subst e5
   have F5:=Lh f5
   clear f5
   have HP:=Lh hp
   have HQ:=Lh hq
   have HF:=Lh hf
   clear hK hp hq hf hd
   go_simp
   exact HK.out _ _ ⟨x0,x1,x2,x3,x4,.tuple #[metV a1 a2 a3 a4 a5 A8 ka c8,.slice A9 n1 c9,.int .i64 110],metV a1 a2 a3 a4 a5 A8 ka c8,x7,x8,x9,x10,x11,x12,(by simp only [Act.put,stA,scZ,scS]),hB,stepP [x0,x1,x2,x3,x4,.tuple #[metV a1 a2 a3 a4 a5 A8 ka c8,.slice A9 n1 c9,.int .i64 110],x6,x7,x8,x9,x10,x11,x12] 6 (metV a1 a2 a3 a4 a5 A8 ka c8) HP.out (by simp) ⟨A8,c8,rfl,F5.out.1⟩,HQ.out.pure (by decide) (by decide)⟩
  ·as_aux_lemma =>
   intro f ax wx hJ hf hd K' hK
   obtain ⟨x0,x1,x2,x3,x4,x5,x6,x7,x8,x9,x10,x11,x12,hax,hB,hp,hq⟩:=hJ
   simp only [Act.put,stA,scZ,scS] at hax
   subst hax
   have HK:=Lh hK
   obtain ⟨A8,c8,A9,c9,e5,f5⟩:=hp 5 (deps_at (k:=0) rfl rfl rfl hd)
   subst e5
   have F5:=Lh f5
   clear f5
   have HP:=Lh hp
   have HQ:=Lh hq
   have HF:=Lh hf
   clear hK hp hq hf hd
   go_simp
   exact HK.out _ _ ⟨x0,x1,x2,x3,x4,.tuple #[metV a1 a2 a3 a4 a5 A8 ka c8,.slice A9 n1 c9,.int .i64 110],x6,.slice A9 n1 c9,x8,x9,x10,x11,x12,(by simp only [Act.put,stA,scZ,scS]),hB,stepP [x0,x1,x2,x3,x4,.tuple #[metV a1 a2 a3 a4 a5 A8 ka c8,.slice A9 n1 c9,.int .i64 110],x6,x7,x8,x9,x10,x11,x12] 7 (.slice A9 n1 c9) HP.out (by simp) ⟨A9,c9,rfl,F5.out.2⟩,HQ.out.pure (by decide) (by decide)⟩
  ·as_aux_lemma =>
   intro f ax wx hJ hf hd K' hK
   obtain ⟨x0,x1,x2,x3,x4,x5,x6,x7,x8,x9,x10,x11,x12,hax,hB,hp,hq⟩:=hJ
   simp only [Act.put,stA,scZ,scS] at hax
   subst hax
   have HK:=Lh hK
   obtain ⟨A8,c8,A9,c9,e5,f5⟩:=hp 5 (deps_at (k:=0) rfl rfl rfl hd)
   subst e5
   have F5:=Lh f5
   clear f5
   have HP:=Lh hp
   have HQ:=Lh hq
   have HF:=Lh hf
   clear hK hp hq hf hd
   go_simp
   exact HK.out _ _ ⟨x0,x1,x2,x3,x4,.tuple #[metV a1 a2 a3 a4 a5 A8 ka c8,.slice A9 n1 c9,.int .i64 110],x6,x7,.int .i64 110,x9,x10,x11,x12,(by simp only [Act.put,stA,scZ,scS]),hB,stepP [x0,x1,x2,x3,x4,.tuple #[metV a1 a2 a3 a4 a5 A8 ka c8,.slice A9 n1 c9,.int .i64 110],x6,x7,x8,x9,x10,x11,x12] 8 (.int .i64 110) HP.out (by simp) rfl,HQ.out.pure (by decide) (by decide)⟩
  ·as_aux_lemma =>
   intro f ax wx hJ hf hd K' hK
   obtain ⟨x0,x1,x2,x3,x4,x5,x6,x7,x8,x9,x10,x11,x12,hax,hB,hp,hq⟩:=hJ
   simp only [Act.put,stA,scZ,scS] at hax
   subst hax
   have HK:=Lh hK
   have HP:=Lh hp
   have HQ:=Lh hq
   have HF:=Lh hf
   clear hK hp hq hf hd
   go_simp
   exact HK.out _ _ ⟨x0,x1,x2,x3,x4,x5,x6,x7,x8,.pointer (some ⟨wx.heap.size,0,none⟩),x10,x11,x12,(by simp only [Act.put,stA,scZ,scS]),hB.trans (((Below.refl _ _).alloc (Nat.le_refl _) _).mono hB.size),stepB [x0,x1,x2,x3,x4,x5,x6,x7,x8,x9,x10,x11,x12] 9 (.pointer (some ⟨wx.heap.size,0,none⟩)) ((Below.refl _ _).alloc (Nat.le_refl _) _) HP.out (by simp) trivial,HQ.out.alloc HF.out (by decide) hB.size⟩
  ·as_aux_lemma =>
   intro f ax wx hJ hf hd K' hK
   obtain ⟨x0,x1,x2,x3,x4,x5,x6,x7,x8,x9,x10,x11,x12,hax,hB,hp,hq⟩:=hJ
   simp only [Act.put,stA,scZ,scS] at hax
   subst hax
   have HK:=Lh hK
   obtain ⟨A9z,c9z,e6,f6⟩:=hp 6 (deps_at (k:=1) rfl rfl rfl hd)
   subst e6
   have F6:=Lh f6
   clear f6
   have qa:=deps_at (k:=0) rfl rfl rfl hd
   obtain ⟨hg,eg,lg,zg,_⟩:=hq.2 qa
   have ZG:=Lh (zg hf)
   subst eg
   clear zg
   have HP:=Lh hp
   have HQ:=Lh hq
   have HF:=Lh hf
   clear hK hp hq hf hd
   obtain ⟨z0,z1,z2,z3,z4,z5⟩:=ZG.out.met
   have fz:=ZG.out.free
   go_simp
   exact HK.out _ _ ⟨x0,x1,x2,x3,x4,x5,metV a1 a2 a3 a4 a5 A9z ka c9z,x7,x8,.pointer (some ⟨hg,0,none⟩),x10,x11,x12,(by simp only [Act.put,stA,scZ,scS]),below_sixM hB lg a1 a2 a3 a4 a5 A9z ka c9z,stepT [x0,x1,x2,x3,x4,x5,metV a1 a2 a3 a4 a5 A9z ka c9z,x7,x8,.pointer (some ⟨hg,0,none⟩),x10,x11,x12] 10 x10 HP.out (fun c _ k=>c.sto (stM.six ZG.out a1 a2 a3 a4 a5 A9z ka c9z) k) (by simp) trivial,HQ.out.store qa (by decide) (fun g e=>(by cases e;exact trivial))⟩
  ·as_aux_lemma =>
   intro f ax wx hJ hf hd K' hK
   obtain ⟨x0,x1,x2,x3,x4,x5,x6,x7,x8,x9,x10,x11,x12,hax,hB,hp,hq⟩:=hJ
   simp only [Act.put,stA,scZ,scS] at hax
   subst hax
   have HK:=Lh hK
   obtain ⟨A9,c9,e7,f7⟩:=hp 7 (deps_at (k:=0) rfl rfl rfl hd)
   subst e7
   have F7:=Lh f7
   clear f7
   have HP:=Lh hp
   have HQ:=Lh hq
   have HF:=Lh hf
   clear hK hp hq hf hd
   go_simp
   exact HK.out _ _ ⟨x0,x1,x2,x3,x4,x5,x6,.slice A9 n1 c9,x8,x9,x10,.slice A9 n1 c9,x12,(by simp only [Act.put,stA,scZ,scS]),hB,stepP [x0,x1,x2,x3,x4,x5,x6,.slice A9 n1 c9,x8,x9,x10,x11,x12] 11 (.slice A9 n1 c9) HP.out (by simp) ⟨A9,c9,rfl,F7.out⟩,HQ.out.pure (by decide) (by decide)⟩
  ·as_aux_lemma =>
   intro f ax wx hJ hf hd K' hK
   obtain ⟨x0,x1,x2,x3,x4,x5,x6,x7,x8,x9,x10,x11,x12,hax,hB,hp,hq⟩:=hJ
   simp only [Act.put,stA,scZ,scS] at hax
   subst hax
   have HK:=Lh hK
   have e8:x8=.int .i64 110:=hp 8 (deps_at (k:=0) rfl rfl rfl hd)
   subst e8
   have HP:=Lh hp
   have HQ:=Lh hq
   have HF:=Lh hf
   clear hK hp hq hf hd
   go_simp
   exact HK.out _ _ ⟨x0,x1,x2,x3,x4,x5,x6,x7,.int .i64 110,x9,x10,x11,.int .i64 110,(by simp only [Act.put,stA,scZ,scS]),hB,stepP [x0,x1,x2,x3,x4,x5,x6,x7,.int .i64 110,x9,x10,x11,x12] 12 (.int .i64 110) HP.out (by simp) rfl,HQ.out.pure (by decide) (by decide)⟩
 ·as_aux_lemma =>
  intro f ax v5 hall hJ fuel
  obtain ⟨x0,x1,x2,x3,x4,x5,x6,x7,x8,x9,x10,x11,x12,hax,hB,hp,hq⟩:=hJ
  simp only [Act.put,stA,scZ,scS] at hax
  have e0:x0=cfgV 2 9 4 2 2 8:=hp 0 (hall 0 (by decide))
  subst e0
  have e1:x1=.agg #[.slice D nS d,.slice D' 0 d']:=hp 1 (hall 1 (by decide))
  subst e1
  have e2:x2=.agg #[.int .u32 1,.int .i64 0,.int .u64 0,.int .i64 0,.int .i64 0,.slice B0 0 k0]:=hp 2 (hall 2 (by decide))
  subst e2
  obtain ⟨A7,c7,e3,f3⟩:=hp 3 (hall 3 (by decide))
  subst e3
  have F3:=Lh f3
  clear f3
  obtain ⟨A8,c8,A9,c9,e4,f4⟩:=hp 4 (hall 4 (by decide))
  subst e4
  have F4:=Lh f4
  clear f4
  obtain ⟨A8,c8,A9,c9,e5,f5⟩:=hp 5 (hall 5 (by decide))
  subst e5
  have F5:=Lh f5
  clear f5
  obtain ⟨A8,c8,e6,f6⟩:=hp 6 (hall 6 (by decide))
  subst e6
  have F6:=Lh f6
  clear f6
  obtain ⟨A9,c9,e7,f7⟩:=hp 7 (hall 7 (by decide))
  subst e7
  have F7:=Lh f7
  clear f7
  have e8:x8=.int .i64 110:=hp 8 (hall 8 (by decide))
  subst e8
  obtain ⟨A9,c9,e11,f11⟩:=hp 11 (hall 11 (by decide))
  subst e11
  have F11:=Lh f11
  clear f11
  have e12:x12=.int .i64 110:=hp 12 (hall 12 (by decide))
  subst e12
  obtain ⟨hg,eg,lg,_,fg⟩:=hq.2 (hall 9 (by decide))
  have FG:=fg (hall 10 (by decide))
  subst eg
  subst hax
  clear hp hq fg hall
  refine wpAny_done (by kernel_rfl) ?_ _
  dsimp only
  have B:=Lh (B.out.trans (hB.mono B.out.size))
  have HD:=Lh (HD.out.below hB)
  have HR:=Lh (HR.out.below hB)
  have XD:=Lh (XD.out.below hB XD.out.lt)
  have XM:=Lh (XM.out.below hB XM.out.lt)
  clear hB FG lg F3 F4 F5 F6 F7 F11
  clear P1
  obtain ⟨XM_0,XM_1,XM_2,XM_3,XM_4,XM_5⟩:=XM.out.met
  go_upto_region 5 with fail
  clear XM_0 XM_1 XM_2 XM_3 XM_4 XM_5
  obtain ⟨hY,hk⟩:=met_box v5 1 0 0 4 65535 B0 0 k0
  have B:=Lh (B.out.trans (hk.mono B.out.size))
  have HD:=Lh (HD.out.below hk)
  have HR:=Lh (HR.out.below hk)
  have XD:=Lh (XD.out.below hk XD.out.lt)
  have XM:=Lh (XM.out.below hk XM.out.lt)
  have XF:=Lh hY
  clear hY hk
  obtain ⟨v6,hv⟩:∃ y,y=v5.alloc (.cells #[.int .u32 1,.int .i64 0,.int .u64 0,.int .i64 4,.int .i64 65535,.slice B0 0 k0] 32):=⟨_,rfl⟩
  rw [← hv] at B HD HR XD XM XF
  (try rw [← hv])
  clear hv
  refine wp_region_upto2 rfl 13 (fun a0 f ax wx=>∃ x0 x1 x2 x3 x4 x5 x6 x7 x8 x9 x10 x11 x12:Value,ax=((((((((((((a0.put (some 48) x0).put (some 49) x1).put (some 50) x2).put (some 51) x3).put (some 52) x4).put (some 47) x5).put (some 53) x6).put (some 54) x7).put (some 55) x8).put (some 8) x9).put (some 9) x11).put (some 10) x12)∧Below v6.heap.size v6 wx∧(∀ jq,f jq=true→(([(Cl.is (cfgV 2 9 4 2 2 8)),(Cl.is (.agg #[.slice D nS d,.slice D' 0 d'])),(Cl.is (.agg #[.int .u32 1,.int .i64 0,.int .u64 0,.int .i64 4,.int .i64 65535,.slice B0 0 k0])),(clArg (fun A7 c7=>.slice A7 14 c7) 14 T),(clPlan (fun A8 c8 A9 c9=>.tuple #[metV b1 b2 b3 b4 b5 A8 kb c8,.slice A9 n2 c9,.int .i64 9]) w.heap.size kb bt n2 l2),(clPlan (fun A8 c8 A9 c9=>.tuple #[metV b1 b2 b3 b4 b5 A8 kb c8,.slice A9 n2 c9,.int .i64 9]) w.heap.size kb bt n2 l2),(clRecs (fun A8 c8=>metV b1 b2 b3 b4 b5 A8 kb c8) w.heap.size kb bt),(clActs (fun A9 c9=>.slice A9 n2 c9) w.heap.size n2 l2),(Cl.is (.int .i64 9)),(Cl.any),(Cl.any),(clActs (fun A9 c9=>.slice A9 n2 c9) w.heap.size n2 l2),(Cl.is (.int .i64 9))]:List (Cl stM)).getD jq Cl.any).p ([x0,x1,x2,x3,x4,x5,x6,x7,x8,x9,x10,x11,x12].getD jq undef) wx)∧BoxS 9 10 v6.heap.size 32 (metL 0 0 0 0 0 none 0 0) (fun wx h=>True) f x9 wx) (by decide) (by kernel_rfl) ?_ ?_ ?_
  ·exact ⟨undef,undef,undef,undef,undef,undef,undef,undef,undef,undef,undef,undef,undef,(by simp only [Act.put,stA,scZ,scS]),(Below.refl _ _).drew,(fun j h=>(by cases h)),BoxS.start⟩
  ·refine ⟨⟨⟨⟨⟨⟨⟨⟨⟨⟨⟨⟨⟨trivial,?_⟩,?_⟩,?_⟩,?_⟩,?_⟩,?_⟩,?_⟩,?_⟩,?_⟩,?_⟩,?_⟩,?_⟩,?_⟩
   ·as_aux_lemma =>
    intro f ax wx hJ hf hd K' hK
    obtain ⟨x0,x1,x2,x3,x4,x5,x6,x7,x8,x9,x10,x11,x12,hax,hB,hp,hq⟩:=hJ
    simp only [Act.put,stA,scZ,scS] at hax
    subst hax
    have HK:=Lh hK
    have HP:=Lh hp
    have HQ:=Lh hq
    have HF:=Lh hf
    clear hK hp hq hf hd
    go_simp
    go_wp2_with (go_at_call 9;refine (TW.out _).mono ?_;rintro e w3 ⟨rfl,hb⟩)
    exact HK.out _ _ ⟨cfgV 2 9 4 2 2 8,x1,x2,x3,x4,x5,x6,x7,x8,x9,x10,x11,x12,(by simp only [Act.put,stA,scZ,scS]),hB.trans (hb.mono hB.size),stepB [x0,x1,x2,x3,x4,x5,x6,x7,x8,x9,x10,x11,x12] 0 (cfgV 2 9 4 2 2 8) hb HP.out (by simp) rfl,HQ.out.grow (by decide) (by decide) hb (fun g k=>(trivial))⟩
   ·as_aux_lemma =>
    intro f ax wx hJ hf hd K' hK
    obtain ⟨x0,x1,x2,x3,x4,x5,x6,x7,x8,x9,x10,x11,x12,hax,hB,hp,hq⟩:=hJ
    simp only [Act.put,stA,scZ,scS] at hax
    subst hax
    have HK:=Lh hK
    have HP:=Lh hp
    have HQ:=Lh hq
    have HF:=Lh hf
    clear hK hp hq hf hd
    obtain ⟨XD_0,XD_1⟩:=(XD.out.below hB XD.out.lt).two_
    go_simp
    exact HK.out _ _ ⟨x0,.agg #[.slice D nS d,.slice D' 0 d'],x2,x3,x4,x5,x6,x7,x8,x9,x10,x11,x12,(by simp only [Act.put,stA,scZ,scS]),hB,stepP [x0,x1,x2,x3,x4,x5,x6,x7,x8,x9,x10,x11,x12] 1 (.agg #[.slice D nS d,.slice D' 0 d']) HP.out (by simp) rfl,HQ.out.pure (by decide) (by decide)⟩
   ·as_aux_lemma =>
    intro f ax wx hJ hf hd K' hK
    obtain ⟨x0,x1,x2,x3,x4,x5,x6,x7,x8,x9,x10,x11,x12,hax,hB,hp,hq⟩:=hJ
    simp only [Act.put,stA,scZ,scS] at hax
    subst hax
    have HK:=Lh hK
    have HP:=Lh hp
    have HQ:=Lh hq
    have HF:=Lh hf
    clear hK hp hq hf hd
    obtain ⟨XF_0,XF_1,XF_2,XF_3,XF_4,XF_5⟩:=(XF.out.below hB XF.out.lt).met
    go_simp
    exact HK.out _ _ ⟨x0,x1,.agg #[.int .u32 1,.int .i64 0,.int .u64 0,.int .i64 4,.int .i64 65535,.slice B0 0 k0],x3,x4,x5,x6,x7,x8,x9,x10,x11,x12,(by simp only [Act.put,stA,scZ,scS]),hB,stepP [x0,x1,x2,x3,x4,x5,x6,x7,x8,x9,x10,x11,x12] 2 (.agg #[.int .u32 1,.int .i64 0,.int .u64 0,.int .i64 4,.int .i64 65535,.slice B0 0 k0]) HP.out (by simp) rfl,HQ.out.pure (by decide) (by decide)⟩
   ·as_aux_lemma =>
    intro f ax wx hJ hf hd K' hK
    obtain ⟨x0,x1,x2,x3,x4,x5,x6,x7,x8,x9,x10,x11,x12,hax,hB,hp,hq⟩:=hJ
    simp only [Act.put,stA,scZ,scS] at hax
    subst hax
    have HK:=Lh hK
    have HP:=Lh hp
    have HQ:=Lh hq
    have HF:=Lh hf
    clear hK hp hq hf hd
    go_simp
    go_wp2_with (go_at_call 11;refine (NT.out _).mono ?_;rintro e w3 ⟨A7,c7,rfl,hown,hb⟩)
    exact HK.out _ _ ⟨x0,x1,x2,.slice A7 14 c7,x4,x5,x6,x7,x8,x9,x10,x11,x12,(by simp only [Act.put,stA,scZ,scS]),hB.trans (hb.mono hB.size),stepB [x0,x1,x2,x3,x4,x5,x6,x7,x8,x9,x10,x11,x12] 3 (.slice A7 14 c7) hb HP.out (by simp) ⟨A7,c7,rfl,Arg.own hown⟩,HQ.out.grow (by decide) (by decide) hb (fun g k=>(trivial))⟩
   ·as_aux_lemma =>
    intro f ax wx hJ hf hd K' hK
    obtain ⟨x0,x1,x2,x3,x4,x5,x6,x7,x8,x9,x10,x11,x12,hax,hB,hp,hq⟩:=hJ
    simp only [Act.put,stA,scZ,scS] at hax
    subst hax
    have HK:=Lh hK
    have e0:x0=cfgV 2 9 4 2 2 8:=hp 0 (deps_at (k:=0) rfl rfl rfl hd)
    subst e0
    have e1:x1=.agg #[.slice D nS d,.slice D' 0 d']:=hp 1 (deps_at (k:=1) rfl rfl rfl hd)
    subst e1
    have e2:x2=.agg #[.int .u32 1,.int .i64 0,.int .u64 0,.int .i64 4,.int .i64 65535,.slice B0 0 k0]:=hp 2 (deps_at (k:=2) rfl rfl rfl hd)
    subst e2
    obtain ⟨A7,c7,e3,f3⟩:=hp 3 (deps_at (k:=3) rfl rfl rfl hd)
    subst e3
    have F3:=Lh f3
    clear f3
    have HP:=Lh hp
    have HQ:=Lh hq
    have HF:=Lh hf
    clear hK hp hq hf hd
    go_simp
    go_wp2_with (go_at_call 10;refine (P2.out _ _ _ (Dsk.of_own (HD.out.below hB)) (Recs.of_own (HR.out.below hB)) F3.out).mono ?_;rintro e w3 ⟨A8,c8,A9,c9,rfl,hown,hacts,hb⟩)
    exact HK.out _ _ ⟨cfgV 2 9 4 2 2 8,.agg #[.slice D nS d,.slice D' 0 d'],.agg #[.int .u32 1,.int .i64 0,.int .u64 0,.int .i64 4,.int .i64 65535,.slice B0 0 k0],.slice A7 14 c7,.tuple #[metV b1 b2 b3 b4 b5 A8 kb c8,.slice A9 n2 c9,.int .i64 9],x5,x6,x7,x8,x9,x10,x11,x12,(by simp only [Act.put,stA,scZ,scS]),hB.trans (hb.mono hB.size),stepB [cfgV 2 9 4 2 2 8,.agg #[.slice D nS d,.slice D' 0 d'],.agg #[.int .u32 1,.int .i64 0,.int .u64 0,.int .i64 4,.int .i64 65535,.slice B0 0 k0],.slice A7 14 c7,x4,x5,x6,x7,x8,x9,x10,x11,x12] 4 (.tuple #[metV b1 b2 b3 b4 b5 A8 kb c8,.slice A9 n2 c9,.int .i64 9]) hb HP.out (by simp) ⟨A8,c8,A9,c9,rfl,hown.lower (Nat.le_trans B.out.size hB.size),hacts.lower (Nat.le_trans B.out.size hB.size)⟩,HQ.out.grow (by decide) (by decide) hb (fun g k=>(trivial))⟩
   ·as_aux_lemma =>
    intro f ax wx hJ hf hd K' hK
    obtain ⟨x0,x1,x2,x3,x4,x5,x6,x7,x8,x9,x10,x11,x12,hax,hB,hp,hq⟩:=hJ
    simp only [Act.put,stA,scZ,scS] at hax
    subst hax
    have HK:=Lh hK
    obtain ⟨A8,c8,A9,c9,e4,f4⟩:=hp 4 (deps_at (k:=0) rfl rfl rfl hd)
    subst e4
    have F4:=Lh f4
    clear f4
    have HP:=Lh hp
    have HQ:=Lh hq
    have HF:=Lh hf
    clear hK hp hq hf hd
    go_simp
    exact HK.out _ _ ⟨x0,x1,x2,x3,.tuple #[metV b1 b2 b3 b4 b5 A8 kb c8,.slice A9 n2 c9,.int .i64 9],.tuple #[metV b1 b2 b3 b4 b5 A8 kb c8,.slice A9 n2 c9,.int .i64 9],x6,x7,x8,x9,x10,x11,x12,(by simp only [Act.put,stA,scZ,scS]),hB,stepP [x0,x1,x2,x3,.tuple #[metV b1 b2 b3 b4 b5 A8 kb c8,.slice A9 n2 c9,.int .i64 9],x5,x6,x7,x8,x9,x10,x11,x12] 5 (.tuple #[metV b1 b2 b3 b4 b5 A8 kb c8,.slice A9 n2 c9,.int .i64 9]) HP.out (by simp) ⟨A8,c8,A9,c9,rfl,F4.out⟩,HQ.out.pure (by decide) (by decide)⟩
   ·as_aux_lemma =>
    intro f ax wx hJ hf hd K' hK
    obtain ⟨x0,x1,x2,x3,x4,x5,x6,x7,x8,x9,x10,x11,x12,hax,hB,hp,hq⟩:=hJ
    simp only [Act.put,stA,scZ,scS] at hax
    subst hax
    have HK:=Lh hK
    obtain ⟨A8,c8,A9,c9,e5,f5⟩:=hp 5 (deps_at (k:=0) rfl rfl rfl hd)
    subst e5
    have F5:=Lh f5
    clear f5
    have HP:=Lh hp
    have HQ:=Lh hq
    have HF:=Lh hf
    clear hK hp hq hf hd
    go_simp
    exact HK.out _ _ ⟨x0,x1,x2,x3,x4,.tuple #[metV b1 b2 b3 b4 b5 A8 kb c8,.slice A9 n2 c9,.int .i64 9],metV b1 b2 b3 b4 b5 A8 kb c8,x7,x8,x9,x10,x11,x12,(by simp only [Act.put,stA,scZ,scS]),hB,stepP [x0,x1,x2,x3,x4,.tuple #[metV b1 b2 b3 b4 b5 A8 kb c8,.slice A9 n2 c9,.int .i64 9],x6,x7,x8,x9,x10,x11,x12] 6 (metV b1 b2 b3 b4 b5 A8 kb c8) HP.out (by simp) ⟨A8,c8,rfl,F5.out.1⟩,HQ.out.pure (by decide) (by decide)⟩
   ·as_aux_lemma =>
    intro f ax wx hJ hf hd K' hK
    obtain ⟨x0,x1,x2,x3,x4,x5,x6,x7,x8,x9,x10,x11,x12,hax,hB,hp,hq⟩:=hJ
    simp only [Act.put,stA,scZ,scS] at hax
    subst hax
    have HK:=Lh hK
    obtain ⟨A8,c8,A9,c9,e5,f5⟩:=hp 5 (deps_at (k:=0) rfl rfl rfl hd)
    subst e5
    have F5:=Lh f5
    clear f5
    have HP:=Lh hp
    have HQ:=Lh hq
    have HF:=Lh hf
    clear hK hp hq hf hd
    go_simp
    exact HK.out _ _ ⟨x0,x1,x2,x3,x4,.tuple #[metV b1 b2 b3 b4 b5 A8 kb c8,.slice A9 n2 c9,.int .i64 9],x6,.slice A9 n2 c9,x8,x9,x10,x11,x12,(by simp only [Act.put,stA,scZ,scS]),hB,stepP [x0,x1,x2,x3,x4,.tuple #[metV b1 b2 b3 b4 b5 A8 kb c8,.slice A9 n2 c9,.int .i64 9],x6,x7,x8,x9,x10,x11,x12] 7 (.slice A9 n2 c9) HP.out (by simp) ⟨A9,c9,rfl,F5.out.2⟩,HQ.out.pure (by decide) (by decide)⟩
   ·as_aux_lemma =>
    intro f ax wx hJ hf hd K' hK
    obtain ⟨x0,x1,x2,x3,x4,x5,x6,x7,x8,x9,x10,x11,x12,hax,hB,hp,hq⟩:=hJ
    simp only [Act.put,stA,scZ,scS] at hax
    subst hax
    have HK:=Lh hK
    obtain ⟨A8,c8,A9,c9,e5,f5⟩:=hp 5 (deps_at (k:=0) rfl rfl rfl hd)
    subst e5
    have F5:=Lh f5
    clear f5
    have HP:=Lh hp
    have HQ:=Lh hq
    have HF:=Lh hf
    clear hK hp hq hf hd
    go_simp
    exact HK.out _ _ ⟨x0,x1,x2,x3,x4,.tuple #[metV b1 b2 b3 b4 b5 A8 kb c8,.slice A9 n2 c9,.int .i64 9],x6,x7,.int .i64 9,x9,x10,x11,x12,(by simp only [Act.put,stA,scZ,scS]),hB,stepP [x0,x1,x2,x3,x4,.tuple #[metV b1 b2 b3 b4 b5 A8 kb c8,.slice A9 n2 c9,.int .i64 9],x6,x7,x8,x9,x10,x11,x12] 8 (.int .i64 9) HP.out (by simp) rfl,HQ.out.pure (by decide) (by decide)⟩
   ·as_aux_lemma =>
    intro f ax wx hJ hf hd K' hK
    obtain ⟨x0,x1,x2,x3,x4,x5,x6,x7,x8,x9,x10,x11,x12,hax,hB,hp,hq⟩:=hJ
    simp only [Act.put,stA,scZ,scS] at hax
    subst hax
    have HK:=Lh hK
    have HP:=Lh hp
    have HQ:=Lh hq
    have HF:=Lh hf
    clear hK hp hq hf hd
    go_simp
    exact HK.out _ _ ⟨x0,x1,x2,x3,x4,x5,x6,x7,x8,.pointer (some ⟨wx.heap.size,0,none⟩),x10,x11,x12,(by simp only [Act.put,stA,scZ,scS]),hB.trans (((Below.refl _ _).alloc (Nat.le_refl _) _).mono hB.size),stepB [x0,x1,x2,x3,x4,x5,x6,x7,x8,x9,x10,x11,x12] 9 (.pointer (some ⟨wx.heap.size,0,none⟩)) ((Below.refl _ _).alloc (Nat.le_refl _) _) HP.out (by simp) trivial,HQ.out.alloc HF.out (by decide) hB.size⟩
   ·as_aux_lemma =>
    intro f ax wx hJ hf hd K' hK
    obtain ⟨x0,x1,x2,x3,x4,x5,x6,x7,x8,x9,x10,x11,x12,hax,hB,hp,hq⟩:=hJ
    simp only [Act.put,stA,scZ,scS] at hax
    subst hax
    have HK:=Lh hK
    obtain ⟨A9z,c9z,e6,f6⟩:=hp 6 (deps_at (k:=1) rfl rfl rfl hd)
    subst e6
    have F6:=Lh f6
    clear f6
    have qa:=deps_at (k:=0) rfl rfl rfl hd
    obtain ⟨hg,eg,lg,zg,_⟩:=hq.2 qa
    have ZG:=Lh (zg hf)
    subst eg
    clear zg
    have HP:=Lh hp
    have HQ:=Lh hq
    have HF:=Lh hf
    clear hK hp hq hf hd
    obtain ⟨z0,z1,z2,z3,z4,z5⟩:=ZG.out.met
    have fz:=ZG.out.free
    go_simp
    exact HK.out _ _ ⟨x0,x1,x2,x3,x4,x5,metV b1 b2 b3 b4 b5 A9z kb c9z,x7,x8,.pointer (some ⟨hg,0,none⟩),x10,x11,x12,(by simp only [Act.put,stA,scZ,scS]),below_sixM hB lg b1 b2 b3 b4 b5 A9z kb c9z,stepT [x0,x1,x2,x3,x4,x5,metV b1 b2 b3 b4 b5 A9z kb c9z,x7,x8,.pointer (some ⟨hg,0,none⟩),x10,x11,x12] 10 x10 HP.out (fun c _ k=>c.sto (stM.six ZG.out b1 b2 b3 b4 b5 A9z kb c9z) k) (by simp) trivial,HQ.out.store qa (by decide) (fun g e=>(by cases e;exact trivial))⟩
   ·as_aux_lemma =>
    intro f ax wx hJ hf hd K' hK
    obtain ⟨x0,x1,x2,x3,x4,x5,x6,x7,x8,x9,x10,x11,x12,hax,hB,hp,hq⟩:=hJ
    simp only [Act.put,stA,scZ,scS] at hax
    subst hax
    have HK:=Lh hK
    obtain ⟨A9,c9,e7,f7⟩:=hp 7 (deps_at (k:=0) rfl rfl rfl hd)
    subst e7
    have F7:=Lh f7
    clear f7
    have HP:=Lh hp
    have HQ:=Lh hq
    have HF:=Lh hf
    clear hK hp hq hf hd
    go_simp
    exact HK.out _ _ ⟨x0,x1,x2,x3,x4,x5,x6,.slice A9 n2 c9,x8,x9,x10,.slice A9 n2 c9,x12,(by simp only [Act.put,stA,scZ,scS]),hB,stepP [x0,x1,x2,x3,x4,x5,x6,.slice A9 n2 c9,x8,x9,x10,x11,x12] 11 (.slice A9 n2 c9) HP.out (by simp) ⟨A9,c9,rfl,F7.out⟩,HQ.out.pure (by decide) (by decide)⟩
   ·as_aux_lemma =>
    intro f ax wx hJ hf hd K' hK
    obtain ⟨x0,x1,x2,x3,x4,x5,x6,x7,x8,x9,x10,x11,x12,hax,hB,hp,hq⟩:=hJ
    simp only [Act.put,stA,scZ,scS] at hax
    subst hax
    have HK:=Lh hK
    have e8:x8=.int .i64 9:=hp 8 (deps_at (k:=0) rfl rfl rfl hd)
    subst e8
    have HP:=Lh hp
    have HQ:=Lh hq
    have HF:=Lh hf
    clear hK hp hq hf hd
    go_simp
    exact HK.out _ _ ⟨x0,x1,x2,x3,x4,x5,x6,x7,.int .i64 9,x9,x10,x11,.int .i64 9,(by simp only [Act.put,stA,scZ,scS]),hB,stepP [x0,x1,x2,x3,x4,x5,x6,x7,.int .i64 9,x9,x10,x11,x12] 12 (.int .i64 9) HP.out (by simp) rfl,HQ.out.pure (by decide) (by decide)⟩
  ·as_aux_lemma =>
   intro f ax v7 hall hJ fuel
   obtain ⟨x0,x1,x2,x3,x4,x5,x6,x7,x8,x9,x10,x11,x12,hax,hB,hp,hq⟩:=hJ
   simp only [Act.put,stA,scZ,scS] at hax
   have e0:x0=cfgV 2 9 4 2 2 8:=hp 0 (hall 0 (by decide))
   subst e0
   have e1:x1=.agg #[.slice D nS d,.slice D' 0 d']:=hp 1 (hall 1 (by decide))
   subst e1
   have e2:x2=.agg #[.int .u32 1,.int .i64 0,.int .u64 0,.int .i64 4,.int .i64 65535,.slice B0 0 k0]:=hp 2 (hall 2 (by decide))
   subst e2
   obtain ⟨A7,c7,e3,f3⟩:=hp 3 (hall 3 (by decide))
   subst e3
   have F3:=Lh f3
   clear f3
   obtain ⟨A8,c8,A9,c9,e4,f4⟩:=hp 4 (hall 4 (by decide))
   subst e4
   have F4:=Lh f4
   clear f4
   obtain ⟨A8,c8,A9,c9,e5,f5⟩:=hp 5 (hall 5 (by decide))
   subst e5
   have F5:=Lh f5
   clear f5
   obtain ⟨A8,c8,e6,f6⟩:=hp 6 (hall 6 (by decide))
   subst e6
   have F6:=Lh f6
   clear f6
   obtain ⟨A9,c9,e7,f7⟩:=hp 7 (hall 7 (by decide))
   subst e7
   have F7:=Lh f7
   clear f7
   have e8:x8=.int .i64 9:=hp 8 (hall 8 (by decide))
   subst e8
   obtain ⟨A9,c9,e11,f11⟩:=hp 11 (hall 11 (by decide))
   subst e11
   have F11:=Lh f11
   clear f11
   have e12:x12=.int .i64 9:=hp 12 (hall 12 (by decide))
   subst e12
   obtain ⟨hg,eg,lg,_,fg⟩:=hq.2 (hall 9 (by decide))
   have FG:=fg (hall 10 (by decide))
   subst eg
   subst hax
   clear hp hq fg hall
   refine wpAny_done (by kernel_rfl) ?_ _
   dsimp only
   have B:=Lh (B.out.trans (hB.mono B.out.size))
   have HD:=Lh (HD.out.below hB)
   have HR:=Lh (HR.out.below hB)
   have XD:=Lh (XD.out.below hB XD.out.lt)
   have XM:=Lh (XM.out.below hB XM.out.lt)
   have XF:=Lh (XF.out.below hB XF.out.lt)
   clear hB FG lg F3 F4 F5 F6 F7 F11
   clear P2 XF
   obtain ⟨XM_0,XM_1,XM_2,XM_3,XM_4,XM_5⟩:=XM.out.met
   go_upto_region 8 with fail
   clear XM_0 XM_1 XM_2 XM_3 XM_4 XM_5
   obtain ⟨hY,hk⟩:=met_box v7 4294967295 0 0 0 0 B0 0 k0
   have B:=Lh (B.out.trans (hk.mono B.out.size))
   have HD:=Lh (HD.out.below hk)
   have HR:=Lh (HR.out.below hk)
   have XD:=Lh (XD.out.below hk XD.out.lt)
   have XM:=Lh (XM.out.below hk XM.out.lt)
   have XL:=Lh hY
   clear hY hk
   obtain ⟨v8,hv⟩:∃ y,y=v7.alloc (.cells #[.int .u32 4294967295,.int .i64 0,.int .u64 0,.int .i64 0,.int .i64 0,.slice B0 0 k0] 32):=⟨_,rfl⟩
   rw [← hv] at B HD HR XD XM XL
   (try rw [← hv])
   clear hv
   refine wp_region_upto2 rfl 12 (fun a0 f ax wx=>∃ x0 x1 x2 x3 x4 x5 x6 x7 x8 x9 x10 x11:Value,ax=(((((((((((a0.put (some 60) x0).put (some 61) x1).put (some 62) x2).put (some 63) x3).put (some 59) x4).put (some 64) x5).put (some 65) x6).put (some 66) x7).put (some 12) x8).put (some 13) x10).put (some 14) x11)∧Below v8.heap.size v8 wx∧(∀ jq,f jq=true→(([(Cl.is (cfgV 2 9 4 2 2 8)),(Cl.is (.agg #[.slice D nS d,.slice D' 0 d'])),(Cl.is (.agg #[.int .u32 4294967295,.int .i64 0,.int .u64 0,.int .i64 0,.int .i64 0,.slice B0 0 k0])),(clPlan (fun A8 c8 A9 c9=>.tuple #[metV c1 c2 c3 c4 c5 A8 kc c8,.slice A9 n3 c9,.int .i64 9]) w.heap.size kc ct n3 l3),(clPlan (fun A8 c8 A9 c9=>.tuple #[metV c1 c2 c3 c4 c5 A8 kc c8,.slice A9 n3 c9,.int .i64 9]) w.heap.size kc ct n3 l3),(clRecs (fun A8 c8=>metV c1 c2 c3 c4 c5 A8 kc c8) w.heap.size kc ct),(clActs (fun A9 c9=>.slice A9 n3 c9) w.heap.size n3 l3),(Cl.is (.int .i64 9)),(Cl.any),(Cl.any),(clActs (fun A9 c9=>.slice A9 n3 c9) w.heap.size n3 l3),(Cl.is (.int .i64 9))]:List (Cl stM)).getD jq Cl.any).p ([x0,x1,x2,x3,x4,x5,x6,x7,x8,x9,x10,x11].getD jq undef) wx)∧BoxS 8 9 v8.heap.size 32 (metL 0 0 0 0 0 none 0 0) (fun wx h=>True) f x8 wx) (by decide) (by kernel_rfl) ?_ ?_ ?_
   ·exact ⟨undef,undef,undef,undef,undef,undef,undef,undef,undef,undef,undef,undef,(by simp only [Act.put,stA,scZ,scS]),(Below.refl _ _).drew,(fun j h=>(by cases h)),BoxS.start⟩
   ·refine ⟨⟨⟨⟨⟨⟨⟨⟨⟨⟨⟨⟨trivial,?_⟩,?_⟩,?_⟩,?_⟩,?_⟩,?_⟩,?_⟩,?_⟩,?_⟩,?_⟩,?_⟩,?_⟩
    ·as_aux_lemma =>
     intro f ax wx hJ hf hd K' hK
     obtain ⟨x0,x1,x2,x3,x4,x5,x6,x7,x8,x9,x10,x11,hax,hB,hp,hq⟩:=hJ
     simp only [Act.put,stA,scZ,scS] at hax
     subst hax
     have HK:=Lh hK
     have HP:=Lh hp
     have HQ:=Lh hq
     have HF:=Lh hf
     clear hK hp hq hf hd
     go_simp
     go_wp2_with (go_at_call 9;refine (TW.out _).mono ?_;rintro e w3 ⟨rfl,hb⟩)
     exact HK.out _ _ ⟨cfgV 2 9 4 2 2 8,x1,x2,x3,x4,x5,x6,x7,x8,x9,x10,x11,(by simp only [Act.put,stA,scZ,scS]),hB.trans (hb.mono hB.size),stepB [x0,x1,x2,x3,x4,x5,x6,x7,x8,x9,x10,x11] 0 (cfgV 2 9 4 2 2 8) hb HP.out (by simp) rfl,HQ.out.grow (by decide) (by decide) hb (fun g k=>(trivial))⟩
    ·as_aux_lemma =>
     intro f ax wx hJ hf hd K' hK
     obtain ⟨x0,x1,x2,x3,x4,x5,x6,x7,x8,x9,x10,x11,hax,hB,hp,hq⟩:=hJ
     simp only [Act.put,stA,scZ,scS] at hax
     subst hax
     have HK:=Lh hK
     have HP:=Lh hp
     have HQ:=Lh hq
     have HF:=Lh hf
     clear hK hp hq hf hd
     obtain ⟨XD_0,XD_1⟩:=(XD.out.below hB XD.out.lt).two_
     go_simp
     exact HK.out _ _ ⟨x0,.agg #[.slice D nS d,.slice D' 0 d'],x2,x3,x4,x5,x6,x7,x8,x9,x10,x11,(by simp only [Act.put,stA,scZ,scS]),hB,stepP [x0,x1,x2,x3,x4,x5,x6,x7,x8,x9,x10,x11] 1 (.agg #[.slice D nS d,.slice D' 0 d']) HP.out (by simp) rfl,HQ.out.pure (by decide) (by decide)⟩
    ·as_aux_lemma =>
     intro f ax wx hJ hf hd K' hK
     obtain ⟨x0,x1,x2,x3,x4,x5,x6,x7,x8,x9,x10,x11,hax,hB,hp,hq⟩:=hJ
     simp only [Act.put,stA,scZ,scS] at hax
     subst hax
     have HK:=Lh hK
     have HP:=Lh hp
     have HQ:=Lh hq
     have HF:=Lh hf
     clear hK hp hq hf hd
     obtain ⟨XL_0,XL_1,XL_2,XL_3,XL_4,XL_5⟩:=(XL.out.below hB XL.out.lt).met
     go_simp
     exact HK.out _ _ ⟨x0,x1,.agg #[.int .u32 4294967295,.int .i64 0,.int .u64 0,.int .i64 0,.int .i64 0,.slice B0 0 k0],x3,x4,x5,x6,x7,x8,x9,x10,x11,(by simp only [Act.put,stA,scZ,scS]),hB,stepP [x0,x1,x2,x3,x4,x5,x6,x7,x8,x9,x10,x11] 2 (.agg #[.int .u32 4294967295,.int .i64 0,.int .u64 0,.int .i64 0,.int .i64 0,.slice B0 0 k0]) HP.out (by simp) rfl,HQ.out.pure (by decide) (by decide)⟩
    ·as_aux_lemma =>
     intro f ax wx hJ hf hd K' hK
     obtain ⟨x0,x1,x2,x3,x4,x5,x6,x7,x8,x9,x10,x11,hax,hB,hp,hq⟩:=hJ
     simp only [Act.put,stA,scZ,scS] at hax
     subst hax
     have HK:=Lh hK
     have e0:x0=cfgV 2 9 4 2 2 8:=hp 0 (deps_at (k:=0) rfl rfl rfl hd)
     subst e0
     have e1:x1=.agg #[.slice D nS d,.slice D' 0 d']:=hp 1 (deps_at (k:=1) rfl rfl rfl hd)
     subst e1
     have e2:x2=.agg #[.int .u32 4294967295,.int .i64 0,.int .u64 0,.int .i64 0,.int .i64 0,.slice B0 0 k0]:=hp 2 (deps_at (k:=2) rfl rfl rfl hd)
     subst e2
     have HP:=Lh hp
     have HQ:=Lh hq
     have HF:=Lh hf
     clear hK hp hq hf hd
     go_simp
     go_wp2_with (go_at_call 12;refine (PB.out _ (Dsk.of_own (HD.out.below hB)) (Recs.of_own (HR.out.below hB))).mono ?_;rintro e w3 ⟨A8,c8,A9,c9,rfl,hown,hacts,hb⟩)
     exact HK.out _ _ ⟨cfgV 2 9 4 2 2 8,.agg #[.slice D nS d,.slice D' 0 d'],.agg #[.int .u32 4294967295,.int .i64 0,.int .u64 0,.int .i64 0,.int .i64 0,.slice B0 0 k0],.tuple #[metV c1 c2 c3 c4 c5 A8 kc c8,.slice A9 n3 c9,.int .i64 9],x4,x5,x6,x7,x8,x9,x10,x11,(by simp only [Act.put,stA,scZ,scS]),hB.trans (hb.mono hB.size),stepB [cfgV 2 9 4 2 2 8,.agg #[.slice D nS d,.slice D' 0 d'],.agg #[.int .u32 4294967295,.int .i64 0,.int .u64 0,.int .i64 0,.int .i64 0,.slice B0 0 k0],x3,x4,x5,x6,x7,x8,x9,x10,x11] 3 (.tuple #[metV c1 c2 c3 c4 c5 A8 kc c8,.slice A9 n3 c9,.int .i64 9]) hb HP.out (by simp) ⟨A8,c8,A9,c9,rfl,hown.lower (Nat.le_trans B.out.size hB.size),hacts.lower (Nat.le_trans B.out.size hB.size)⟩,HQ.out.grow (by decide) (by decide) hb (fun g k=>(trivial))⟩
    ·as_aux_lemma =>
     intro f ax wx hJ hf hd K' hK
     obtain ⟨x0,x1,x2,x3,x4,x5,x6,x7,x8,x9,x10,x11,hax,hB,hp,hq⟩:=hJ
     simp only [Act.put,stA,scZ,scS] at hax
     subst hax
     have HK:=Lh hK
     obtain ⟨A8,c8,A9,c9,e3,f3⟩:=hp 3 (deps_at (k:=0) rfl rfl rfl hd)
     subst e3
     have F3:=Lh f3
     clear f3
     have HP:=Lh hp
     have HQ:=Lh hq
     have HF:=Lh hf
     clear hK hp hq hf hd
     go_simp
     exact HK.out _ _ ⟨x0,x1,x2,.tuple #[metV c1 c2 c3 c4 c5 A8 kc c8,.slice A9 n3 c9,.int .i64 9],.tuple #[metV c1 c2 c3 c4 c5 A8 kc c8,.slice A9 n3 c9,.int .i64 9],x5,x6,x7,x8,x9,x10,x11,(by simp only [Act.put,stA,scZ,scS]),hB,stepP [x0,x1,x2,.tuple #[metV c1 c2 c3 c4 c5 A8 kc c8,.slice A9 n3 c9,.int .i64 9],x4,x5,x6,x7,x8,x9,x10,x11] 4 (.tuple #[metV c1 c2 c3 c4 c5 A8 kc c8,.slice A9 n3 c9,.int .i64 9]) HP.out (by simp) ⟨A8,c8,A9,c9,rfl,F3.out⟩,HQ.out.pure (by decide) (by decide)⟩
    ·as_aux_lemma =>
     intro f ax wx hJ hf hd K' hK
     obtain ⟨x0,x1,x2,x3,x4,x5,x6,x7,x8,x9,x10,x11,hax,hB,hp,hq⟩:=hJ
     simp only [Act.put,stA,scZ,scS] at hax
     subst hax
     have HK:=Lh hK
     obtain ⟨A8,c8,A9,c9,e4,f4⟩:=hp 4 (deps_at (k:=0) rfl rfl rfl hd)
     subst e4
     have F4:=Lh f4
     clear f4
     have HP:=Lh hp
     have HQ:=Lh hq
     have HF:=Lh hf
     clear hK hp hq hf hd
     go_simp
     exact HK.out _ _ ⟨x0,x1,x2,x3,.tuple #[metV c1 c2 c3 c4 c5 A8 kc c8,.slice A9 n3 c9,.int .i64 9],metV c1 c2 c3 c4 c5 A8 kc c8,x6,x7,x8,x9,x10,x11,(by simp only [Act.put,stA,scZ,scS]),hB,stepP [x0,x1,x2,x3,.tuple #[metV c1 c2 c3 c4 c5 A8 kc c8,.slice A9 n3 c9,.int .i64 9],x5,x6,x7,x8,x9,x10,x11] 5 (metV c1 c2 c3 c4 c5 A8 kc c8) HP.out (by simp) ⟨A8,c8,rfl,F4.out.1⟩,HQ.out.pure (by decide) (by decide)⟩
    ·as_aux_lemma =>
     intro f ax wx hJ hf hd K' hK
     obtain ⟨x0,x1,x2,x3,x4,x5,x6,x7,x8,x9,x10,x11,hax,hB,hp,hq⟩:=hJ
     simp only [Act.put,stA,scZ,scS] at hax
     subst hax
     have HK:=Lh hK
     obtain ⟨A8,c8,A9,c9,e4,f4⟩:=hp 4 (deps_at (k:=0) rfl rfl rfl hd)
     subst e4
     have F4:=Lh f4
     clear f4
     have HP:=Lh hp
     have HQ:=Lh hq
     have HF:=Lh hf
     clear hK hp hq hf hd
     go_simp
     exact HK.out _ _ ⟨x0,x1,x2,x3,.tuple #[metV c1 c2 c3 c4 c5 A8 kc c8,.slice A9 n3 c9,.int .i64 9],x5,.slice A9 n3 c9,x7,x8,x9,x10,x11,(by simp only [Act.put,stA,scZ,scS]),hB,stepP [x0,x1,x2,x3,.tuple #[metV c1 c2 c3 c4 c5 A8 kc c8,.slice A9 n3 c9,.int .i64 9],x5,x6,x7,x8,x9,x10,x11] 6 (.slice A9 n3 c9) HP.out (by simp) ⟨A9,c9,rfl,F4.out.2⟩,HQ.out.pure (by decide) (by decide)⟩
    ·as_aux_lemma =>
     intro f ax wx hJ hf hd K' hK
     obtain ⟨x0,x1,x2,x3,x4,x5,x6,x7,x8,x9,x10,x11,hax,hB,hp,hq⟩:=hJ
     simp only [Act.put,stA,scZ,scS] at hax
     subst hax
     have HK:=Lh hK
     obtain ⟨A8,c8,A9,c9,e4,f4⟩:=hp 4 (deps_at (k:=0) rfl rfl rfl hd)
     subst e4
     have F4:=Lh f4
     clear f4
     have HP:=Lh hp
     have HQ:=Lh hq
     have HF:=Lh hf
     clear hK hp hq hf hd
     go_simp
     exact HK.out _ _ ⟨x0,x1,x2,x3,.tuple #[metV c1 c2 c3 c4 c5 A8 kc c8,.slice A9 n3 c9,.int .i64 9],x5,x6,.int .i64 9,x8,x9,x10,x11,(by simp only [Act.put,stA,scZ,scS]),hB,stepP [x0,x1,x2,x3,.tuple #[metV c1 c2 c3 c4 c5 A8 kc c8,.slice A9 n3 c9,.int .i64 9],x5,x6,x7,x8,x9,x10,x11] 7 (.int .i64 9) HP.out (by simp) rfl,HQ.out.pure (by decide) (by decide)⟩
    ·as_aux_lemma =>
     intro f ax wx hJ hf hd K' hK
     obtain ⟨x0,x1,x2,x3,x4,x5,x6,x7,x8,x9,x10,x11,hax,hB,hp,hq⟩:=hJ
     simp only [Act.put,stA,scZ,scS] at hax
     subst hax
     have HK:=Lh hK
     have HP:=Lh hp
     have HQ:=Lh hq
     have HF:=Lh hf
     clear hK hp hq hf hd
     go_simp
     exact HK.out _ _ ⟨x0,x1,x2,x3,x4,x5,x6,x7,.pointer (some ⟨wx.heap.size,0,none⟩),x9,x10,x11,(by simp only [Act.put,stA,scZ,scS]),hB.trans (((Below.refl _ _).alloc (Nat.le_refl _) _).mono hB.size),stepB [x0,x1,x2,x3,x4,x5,x6,x7,x8,x9,x10,x11] 8 (.pointer (some ⟨wx.heap.size,0,none⟩)) ((Below.refl _ _).alloc (Nat.le_refl _) _) HP.out (by simp) trivial,HQ.out.alloc HF.out (by decide) hB.size⟩
    ·as_aux_lemma =>
     intro f ax wx hJ hf hd K' hK
     obtain ⟨x0,x1,x2,x3,x4,x5,x6,x7,x8,x9,x10,x11,hax,hB,hp,hq⟩:=hJ
     simp only [Act.put,stA,scZ,scS] at hax
     subst hax
     have HK:=Lh hK
     obtain ⟨A9z,c9z,e5,f5⟩:=hp 5 (deps_at (k:=1) rfl rfl rfl hd)
     subst e5
     have F5:=Lh f5
     clear f5
     have qa:=deps_at (k:=0) rfl rfl rfl hd
     obtain ⟨hg,eg,lg,zg,_⟩:=hq.2 qa
     have ZG:=Lh (zg hf)
     subst eg
     clear zg
     have HP:=Lh hp
     have HQ:=Lh hq
     have HF:=Lh hf
     clear hK hp hq hf hd
     obtain ⟨z0,z1,z2,z3,z4,z5⟩:=ZG.out.met
     have fz:=ZG.out.free
     go_simp
     exact HK.out _ _ ⟨x0,x1,x2,x3,x4,metV c1 c2 c3 c4 c5 A9z kc c9z,x6,x7,.pointer (some ⟨hg,0,none⟩),x9,x10,x11,(by simp only [Act.put,stA,scZ,scS]),below_sixM hB lg c1 c2 c3 c4 c5 A9z kc c9z,stepT [x0,x1,x2,x3,x4,metV c1 c2 c3 c4 c5 A9z kc c9z,x6,x7,.pointer (some ⟨hg,0,none⟩),x9,x10,x11] 9 x9 HP.out (fun c _ k=>c.sto (stM.six ZG.out c1 c2 c3 c4 c5 A9z kc c9z) k) (by simp) trivial,HQ.out.store qa (by decide) (fun g e=>(by cases e;exact trivial))⟩
    ·as_aux_lemma =>
     intro f ax wx hJ hf hd K' hK
     obtain ⟨x0,x1,x2,x3,x4,x5,x6,x7,x8,x9,x10,x11,hax,hB,hp,hq⟩:=hJ
     simp only [Act.put,stA,scZ,scS] at hax
     subst hax
     have HK:=Lh hK
     obtain ⟨A9,c9,e6,f6⟩:=hp 6 (deps_at (k:=0) rfl rfl rfl hd)
     subst e6
     have F6:=Lh f6
     clear f6
     have HP:=Lh hp
     have HQ:=Lh hq
     have HF:=Lh hf
     clear hK hp hq hf hd
     go_simp
     exact HK.out _ _ ⟨x0,x1,x2,x3,x4,x5,.slice A9 n3 c9,x7,x8,x9,.slice A9 n3 c9,x11,(by simp only [Act.put,stA,scZ,scS]),hB,stepP [x0,x1,x2,x3,x4,x5,.slice A9 n3 c9,x7,x8,x9,x10,x11] 10 (.slice A9 n3 c9) HP.out (by simp) ⟨A9,c9,rfl,F6.out⟩,HQ.out.pure (by decide) (by decide)⟩
    ·as_aux_lemma =>
     intro f ax wx hJ hf hd K' hK
     obtain ⟨x0,x1,x2,x3,x4,x5,x6,x7,x8,x9,x10,x11,hax,hB,hp,hq⟩:=hJ
     simp only [Act.put,stA,scZ,scS] at hax
     subst hax
     have HK:=Lh hK
     have e7:x7=.int .i64 9:=hp 7 (deps_at (k:=0) rfl rfl rfl hd)
     subst e7
     have HP:=Lh hp
     have HQ:=Lh hq
     have HF:=Lh hf
     clear hK hp hq hf hd
     go_simp
     exact HK.out _ _ ⟨x0,x1,x2,x3,x4,x5,x6,.int .i64 9,x8,x9,x10,.int .i64 9,(by simp only [Act.put,stA,scZ,scS]),hB,stepP [x0,x1,x2,x3,x4,x5,x6,.int .i64 9,x8,x9,x10,x11] 11 (.int .i64 9) HP.out (by simp) rfl,HQ.out.pure (by decide) (by decide)⟩
   ·as_aux_lemma =>
    intro f ax v9 hall hJ fuel
    obtain ⟨x0,x1,x2,x3,x4,x5,x6,x7,x8,x9,x10,x11,hax,hB,hp,hq⟩:=hJ
    simp only [Act.put,stA,scZ,scS] at hax
    have e0:x0=cfgV 2 9 4 2 2 8:=hp 0 (hall 0 (by decide))
    subst e0
    have e1:x1=.agg #[.slice D nS d,.slice D' 0 d']:=hp 1 (hall 1 (by decide))
    subst e1
    have e2:x2=.agg #[.int .u32 4294967295,.int .i64 0,.int .u64 0,.int .i64 0,.int .i64 0,.slice B0 0 k0]:=hp 2 (hall 2 (by decide))
    subst e2
    obtain ⟨A8,c8,A9,c9,e3,f3⟩:=hp 3 (hall 3 (by decide))
    subst e3
    have F3:=Lh f3
    clear f3
    obtain ⟨A8,c8,A9,c9,e4,f4⟩:=hp 4 (hall 4 (by decide))
    subst e4
    have F4:=Lh f4
    clear f4
    obtain ⟨A8,c8,e5,f5⟩:=hp 5 (hall 5 (by decide))
    subst e5
    have F5:=Lh f5
    clear f5
    obtain ⟨A9,c9,e6,f6⟩:=hp 6 (hall 6 (by decide))
    subst e6
    have F6:=Lh f6
    clear f6
    have e7:x7=.int .i64 9:=hp 7 (hall 7 (by decide))
    subst e7
    obtain ⟨A9,c9,e10,f10⟩:=hp 10 (hall 10 (by decide))
    subst e10
    have F10:=Lh f10
    clear f10
    have e11:x11=.int .i64 9:=hp 11 (hall 11 (by decide))
    subst e11
    obtain ⟨hg,eg,lg,_,fg⟩:=hq.2 (hall 8 (by decide))
    have FG:=fg (hall 9 (by decide))
    subst eg
    subst hax
    clear hp hq fg hall
    refine wpAny_done (by kernel_rfl) ?_ _
    dsimp only
    have B:=Lh (B.out.trans (hB.mono B.out.size))
    have HD:=Lh (HD.out.below hB)
    have HR:=Lh (HR.out.below hB)
    have XD:=Lh (XD.out.below hB XD.out.lt)
    have XM:=Lh (XM.out.below hB XM.out.lt)
    have XL:=Lh (XL.out.below hB XL.out.lt)
    clear hB FG lg F3 F4 F5 F6 F10
    clear PB XL
    obtain ⟨XM_0,XM_1,XM_2,XM_3,XM_4,XM_5⟩:=XM.out.met
    go_wp2_with fail
    clear XM_0 XM_1 XM_2 XM_3 XM_4 XM_5
    obtain ⟨GW,hGW⟩:∃ y,y=v9.heap.size:=⟨_,rfl⟩
    obtain ⟨hY,hk⟩:=met_box v9 1 0 0 5 0 B0 0 k0
    have B:=Lh (B.out.trans (hk.mono B.out.size))
    have HD:=Lh (HD.out.below hk)
    have HR:=Lh (HR.out.below hk)
    have XD:=Lh (XD.out.below hk XD.out.lt)
    have XM:=Lh (XM.out.below hk XM.out.lt)
    have XW:=Lh hY
    clear hY hk
    obtain ⟨v10,hv⟩:∃ y,y=v9.alloc (.cells #[.int .u32 1,.int .i64 0,.int .u64 0,.int .i64 5,.int .i64 0,.slice B0 0 k0] 32):=⟨_,rfl⟩
    rw [← hv] at B HD HR XD XM XW
    (try rw [← hv])
    clear hv
    rw [← hGW] at XW
    (try rw [← hGW])
    clear hGW
    refine (TW.out _).mono ?_
    rintro e v11 ⟨rfl,hb⟩
    have B:=Lh (B.out.trans (hb.mono B.out.size))
    have HD:=Lh (HD.out.below hb)
    have HR:=Lh (HR.out.below hb)
    have XD:=Lh (XD.out.below hb XD.out.lt)
    have XM:=Lh (XM.out.below hb XM.out.lt)
    have XW:=Lh (XW.out.below hb XW.out.lt)
    clear hb
    go_wp2_with fail
    refine (PO.out _).mono ?_
    rintro e v12 ⟨A8,c8,rfl,hown,hb⟩
    have B:=Lh (B.out.trans (hb.mono B.out.size))
    have HD:=Lh (HD.out.below hb)
    have HR:=Lh (HR.out.below hb)
    have XD:=Lh (XD.out.below hb XD.out.lt)
    have XM:=Lh (XM.out.below hb XM.out.lt)
    have XW:=Lh (XW.out.below hb XW.out.lt)
    clear hb hown PO
    go_upto_region 12 with fail
    obtain ⟨hY,hk⟩:=met_box v12 e1 e2 e3 e4 e5 A8 ke c8
    have B:=Lh (B.out.trans (hk.mono B.out.size))
    have HD:=Lh (HD.out.below hk)
    have HR:=Lh (HR.out.below hk)
    have XD:=Lh (XD.out.below hk XD.out.lt)
    have XM:=Lh (XM.out.below hk XM.out.lt)
    have XW:=Lh (XW.out.below hk XW.out.lt)
    have XO:=Lh hY
    clear hY hk
    obtain ⟨v13,hv⟩:∃ y,y=v12.alloc (.cells #[.int .u32 e1,.int .i64 e2,.int .u64 e3,.int .i64 e4,.int .i64 e5,.slice A8 ke c8] 32):=⟨_,rfl⟩
    rw [← hv] at B HD HR XD XM XW XO
    (try rw [← hv])
    clear hv
    clear XO
    refine wp_region_upto2 rfl 9 (fun a0 f ax wx=>∃ x0 x1 x2 x3 x4 x5 x6 x7 x8:Value,ax=(((((((((a0.put (some 76) x0).put (some 77) x1).put (some 78) x2).put (some 79) x3).put (some 75) x4).put (some 80) x5).put (some 81) x6).put (some 18) x7).put (some 19) x8)∧Below v13.heap.size v13 wx∧(∀ jq,f jq=true→(([(Cl.is (cfgV 2 9 4 2 2 8)),(Cl.is (.agg #[.slice D nS d,.slice D' 0 d'])),(Cl.is (.agg #[.int .u32 1,.int .i64 0,.int .u64 0,.int .i64 0,.int .i64 0,.slice B0 0 k0])),(Cl.is (.tuple #[.bool true,.int .i64 0])),(Cl.is (.tuple #[.bool true,.int .i64 0])),(Cl.is (.bool true)),(Cl.is (.int .i64 0)),(Cl.is (.bool true)),(Cl.is (.int .i64 0))]:List (Cl stN)).getD jq Cl.any).p ([x0,x1,x2,x3,x4,x5,x6,x7,x8].getD jq undef) wx)) (by decide) (by kernel_rfl) ?_ ?_ ?_
    ·exact ⟨undef,undef,undef,undef,undef,undef,undef,undef,undef,(by simp only [Act.put,stA,scZ,scS]),(Below.refl _ _).drew,(fun j h=>(by cases h))⟩
    ·refine ⟨⟨⟨⟨⟨⟨⟨⟨⟨trivial,?_⟩,?_⟩,?_⟩,?_⟩,?_⟩,?_⟩,?_⟩,?_⟩,?_⟩
     ·as_aux_lemma =>
      intro f ax wx hJ hf hd K' hK
      obtain ⟨x0,x1,x2,x3,x4,x5,x6,x7,x8,hax,hB,hp⟩:=hJ
      simp only [Act.put,stA,scZ,scS] at hax
      subst hax
      have HK:=Lh hK
      have HP:=Lh hp
      clear hK hp hf hd
      go_simp
      go_wp2_with (go_at_call 9;refine (TW.out _).mono ?_;rintro e w3 ⟨rfl,hb⟩)
      exact HK.out _ _ ⟨cfgV 2 9 4 2 2 8,x1,x2,x3,x4,x5,x6,x7,x8,(by simp only [Act.put,stA,scZ,scS]),hB.trans (hb.mono hB.size),stepB [x0,x1,x2,x3,x4,x5,x6,x7,x8] 0 (cfgV 2 9 4 2 2 8) hb HP.out (by simp) rfl⟩
     ·as_aux_lemma =>
      intro f ax wx hJ hf hd K' hK
      obtain ⟨x0,x1,x2,x3,x4,x5,x6,x7,x8,hax,hB,hp⟩:=hJ
      simp only [Act.put,stA,scZ,scS] at hax
      subst hax
      have HK:=Lh hK
      have HP:=Lh hp
      clear hK hp hf hd
      obtain ⟨XD_0,XD_1⟩:=(XD.out.below hB XD.out.lt).two_
      go_simp
      exact HK.out _ _ ⟨x0,.agg #[.slice D nS d,.slice D' 0 d'],x2,x3,x4,x5,x6,x7,x8,(by simp only [Act.put,stA,scZ,scS]),hB,stepP [x0,x1,x2,x3,x4,x5,x6,x7,x8] 1 (.agg #[.slice D nS d,.slice D' 0 d']) HP.out (by simp) rfl⟩
     ·as_aux_lemma =>
      intro f ax wx hJ hf hd K' hK
      obtain ⟨x0,x1,x2,x3,x4,x5,x6,x7,x8,hax,hB,hp⟩:=hJ
      simp only [Act.put,stA,scZ,scS] at hax
      subst hax
      have HK:=Lh hK
      have HP:=Lh hp
      clear hK hp hf hd
      obtain ⟨XM_0,XM_1,XM_2,XM_3,XM_4,XM_5⟩:=(XM.out.below hB XM.out.lt).met
      go_simp
      exact HK.out _ _ ⟨x0,x1,.agg #[.int .u32 1,.int .i64 0,.int .u64 0,.int .i64 0,.int .i64 0,.slice B0 0 k0],x3,x4,x5,x6,x7,x8,(by simp only [Act.put,stA,scZ,scS]),hB,stepP [x0,x1,x2,x3,x4,x5,x6,x7,x8] 2 (.agg #[.int .u32 1,.int .i64 0,.int .u64 0,.int .i64 0,.int .i64 0,.slice B0 0 k0]) HP.out (by simp) rfl⟩
     ·as_aux_lemma =>
      intro f ax wx hJ hf hd K' hK
      obtain ⟨x0,x1,x2,x3,x4,x5,x6,x7,x8,hax,hB,hp⟩:=hJ
      simp only [Act.put,stA,scZ,scS] at hax
      subst hax
      have HK:=Lh hK
      have e0:x0=cfgV 2 9 4 2 2 8:=hp 0 (deps_at (k:=0) rfl rfl rfl hd)
      subst e0
      have e1:x1=.agg #[.slice D nS d,.slice D' 0 d']:=hp 1 (deps_at (k:=1) rfl rfl rfl hd)
      subst e1
      have e2:x2=.agg #[.int .u32 1,.int .i64 0,.int .u64 0,.int .i64 0,.int .i64 0,.slice B0 0 k0]:=hp 2 (deps_at (k:=2) rfl rfl rfl hd)
      subst e2
      have HP:=Lh hp
      clear hK hp hf hd
      go_simp
      go_wp2_with (go_at_call 14;refine (PR.out _ (Dsk.of_own (HD.out.below hB)) (Recs.of_own (HR.out.below hB))).mono ?_;rintro e w3 ⟨rfl,hb⟩)
      exact HK.out _ _ ⟨cfgV 2 9 4 2 2 8,.agg #[.slice D nS d,.slice D' 0 d'],.agg #[.int .u32 1,.int .i64 0,.int .u64 0,.int .i64 0,.int .i64 0,.slice B0 0 k0],.tuple #[.bool true,.int .i64 0],x4,x5,x6,x7,x8,(by simp only [Act.put,stA,scZ,scS]),hB.trans (hb.mono hB.size),stepB [cfgV 2 9 4 2 2 8,.agg #[.slice D nS d,.slice D' 0 d'],.agg #[.int .u32 1,.int .i64 0,.int .u64 0,.int .i64 0,.int .i64 0,.slice B0 0 k0],x3,x4,x5,x6,x7,x8] 3 (.tuple #[.bool true,.int .i64 0]) hb HP.out (by simp) rfl⟩
     ·as_aux_lemma =>
      intro f ax wx hJ hf hd K' hK
      obtain ⟨x0,x1,x2,x3,x4,x5,x6,x7,x8,hax,hB,hp⟩:=hJ
      simp only [Act.put,stA,scZ,scS] at hax
      subst hax
      have HK:=Lh hK
      have e3:x3=.tuple #[.bool true,.int .i64 0]:=hp 3 (deps_at (k:=0) rfl rfl rfl hd)
      subst e3
      have HP:=Lh hp
      clear hK hp hf hd
      go_simp
      exact HK.out _ _ ⟨x0,x1,x2,.tuple #[.bool true,.int .i64 0],.tuple #[.bool true,.int .i64 0],x5,x6,x7,x8,(by simp only [Act.put,stA,scZ,scS]),hB,stepP [x0,x1,x2,.tuple #[.bool true,.int .i64 0],x4,x5,x6,x7,x8] 4 (.tuple #[.bool true,.int .i64 0]) HP.out (by simp) rfl⟩
     ·as_aux_lemma =>
      intro f ax wx hJ hf hd K' hK
      obtain ⟨x0,x1,x2,x3,x4,x5,x6,x7,x8,hax,hB,hp⟩:=hJ
      simp only [Act.put,stA,scZ,scS] at hax
      subst hax
      have HK:=Lh hK
      have e4:x4=.tuple #[.bool true,.int .i64 0]:=hp 4 (deps_at (k:=0) rfl rfl rfl hd)
      subst e4
      have HP:=Lh hp
      clear hK hp hf hd
      go_simp
      exact HK.out _ _ ⟨x0,x1,x2,x3,.tuple #[.bool true,.int .i64 0],.bool true,x6,x7,x8,(by simp only [Act.put,stA,scZ,scS]),hB,stepP [x0,x1,x2,x3,.tuple #[.bool true,.int .i64 0],x5,x6,x7,x8] 5 (.bool true) HP.out (by simp) rfl⟩
     ·as_aux_lemma =>
      intro f ax wx hJ hf hd K' hK
      obtain ⟨x0,x1,x2,x3,x4,x5,x6,x7,x8,hax,hB,hp⟩:=hJ
      simp only [Act.put,stA,scZ,scS] at hax
      subst hax
      have HK:=Lh hK
      have e4:x4=.tuple #[.bool true,.int .i64 0]:=hp 4 (deps_at (k:=0) rfl rfl rfl hd)
      subst e4
      have HP:=Lh hp
      clear hK hp hf hd
      go_simp
      exact HK.out _ _ ⟨x0,x1,x2,x3,.tuple #[.bool true,.int .i64 0],x5,.int .i64 0,x7,x8,(by simp only [Act.put,stA,scZ,scS]),hB,stepP [x0,x1,x2,x3,.tuple #[.bool true,.int .i64 0],x5,x6,x7,x8] 6 (.int .i64 0) HP.out (by simp) rfl⟩
     ·as_aux_lemma =>
      intro f ax wx hJ hf hd K' hK
      obtain ⟨x0,x1,x2,x3,x4,x5,x6,x7,x8,hax,hB,hp⟩:=hJ
      simp only [Act.put,stA,scZ,scS] at hax
      subst hax
      have HK:=Lh hK
      have e5:x5=.bool true:=hp 5 (deps_at (k:=0) rfl rfl rfl hd)
      subst e5
      have HP:=Lh hp
      clear hK hp hf hd
      go_simp
      exact HK.out _ _ ⟨x0,x1,x2,x3,x4,.bool true,x6,.bool true,x8,(by simp only [Act.put,stA,scZ,scS]),hB,stepP [x0,x1,x2,x3,x4,.bool true,x6,x7,x8] 7 (.bool true) HP.out (by simp) rfl⟩
     ·as_aux_lemma =>
      intro f ax wx hJ hf hd K' hK
      obtain ⟨x0,x1,x2,x3,x4,x5,x6,x7,x8,hax,hB,hp⟩:=hJ
      simp only [Act.put,stA,scZ,scS] at hax
      subst hax
      have HK:=Lh hK
      have e6:x6=.int .i64 0:=hp 6 (deps_at (k:=0) rfl rfl rfl hd)
      subst e6
      have HP:=Lh hp
      clear hK hp hf hd
      go_simp
      exact HK.out _ _ ⟨x0,x1,x2,x3,x4,x5,.int .i64 0,x7,.int .i64 0,(by simp only [Act.put,stA,scZ,scS]),hB,stepP [x0,x1,x2,x3,x4,x5,.int .i64 0,x7,x8] 8 (.int .i64 0) HP.out (by simp) rfl⟩
    ·as_aux_lemma =>
     intro f ax v14 hall hJ fuel
     obtain ⟨x0,x1,x2,x3,x4,x5,x6,x7,x8,hax,hB,hp⟩:=hJ
     simp only [Act.put,stA,scZ,scS] at hax
     have e0:x0=cfgV 2 9 4 2 2 8:=hp 0 (hall 0 (by decide))
     subst e0
     have e1:x1=.agg #[.slice D nS d,.slice D' 0 d']:=hp 1 (hall 1 (by decide))
     subst e1
     have e2:x2=.agg #[.int .u32 1,.int .i64 0,.int .u64 0,.int .i64 0,.int .i64 0,.slice B0 0 k0]:=hp 2 (hall 2 (by decide))
     subst e2
     have e3:x3=.tuple #[.bool true,.int .i64 0]:=hp 3 (hall 3 (by decide))
     subst e3
     have e4:x4=.tuple #[.bool true,.int .i64 0]:=hp 4 (hall 4 (by decide))
     subst e4
     have e5:x5=.bool true:=hp 5 (hall 5 (by decide))
     subst e5
     have e6:x6=.int .i64 0:=hp 6 (hall 6 (by decide))
     subst e6
     have e7:x7=.bool true:=hp 7 (hall 7 (by decide))
     subst e7
     have e8:x8=.int .i64 0:=hp 8 (hall 8 (by decide))
     subst e8
     subst hax
     clear hp hall
     refine wpAny_done (by kernel_rfl) ?_ _
     have B:=Lh (B.out.trans (hB.mono B.out.size))
     have HD:=Lh (HD.out.below hB)
     have HR:=Lh (HR.out.below hB)
     have XD:=Lh (XD.out.below hB XD.out.lt)
     have XM:=Lh (XM.out.below hB XM.out.lt)
     have XW:=Lh (XW.out.below hB XW.out.lt)
     clear hB
     clear PR
     go_upto_region 13 with fail
     refine wp_region_upto2 rfl 13 (fun a0 f ax wx=>∃ x0 x1 x2 x3 x4 x5 x6 x7 x8 x9 x10 x11 x12:Value,ax=((((((((((((a0.put (some 83) x0).put (some 84) x1).put (some 85) x2).put (some 86) x3).put (some 87) x4).put (some 82) x5).put (some 88) x6).put (some 89) x7).put (some 90) x8).put (some 20) x9).put (some 21) x11).put (some 22) x12)∧Below v14.heap.size v14 wx∧(∀ jq,f jq=true→(([(Cl.is (cfgV 2 9 4 2 2 8)),(Cl.is (.agg #[.slice D nS d,.slice D' 0 d'])),(Cl.is (.agg #[.int .u32 1,.int .i64 0,.int .u64 0,.int .i64 0,.int .i64 0,.slice B0 0 k0])),(clArg (fun A7 c7=>.slice A7 14 c7) 14 T),(clPlan (fun A8 c8 A9 c9=>.tuple #[metV 1 0 0 1 0 A8 1 c8,.slice A9 2 c9,.int .i64 0]) w.heap.size 1 [noteR 0 1] 2 L),(clPlan (fun A8 c8 A9 c9=>.tuple #[metV 1 0 0 1 0 A8 1 c8,.slice A9 2 c9,.int .i64 0]) w.heap.size 1 [noteR 0 1] 2 L),(clRecs (fun A8 c8=>metV 1 0 0 1 0 A8 1 c8) w.heap.size 1 [noteR 0 1]),(clActs (fun A9 c9=>.slice A9 2 c9) w.heap.size 2 L),(Cl.is (.int .i64 0)),(Cl.any),(Cl.any),(clActs (fun A9 c9=>.slice A9 2 c9) w.heap.size 2 L),(Cl.is (.int .i64 0))]:List (Cl stM)).getD jq Cl.any).p ([x0,x1,x2,x3,x4,x5,x6,x7,x8,x9,x10,x11,x12].getD jq undef) wx)∧BoxS 9 10 v14.heap.size 32 (metL 0 0 0 0 0 none 0 0) (fun wx h=>∃ A c,Blk wx h 32 (metL 1 0 0 1 0 A 1 c)∧OwnRecs wx w.heap.size A 1 c [noteR 0 1]) f x9 wx) (by decide) (by kernel_rfl) ?_ ?_ ?_
     ·exact ⟨undef,undef,undef,undef,undef,undef,undef,undef,undef,undef,undef,undef,undef,(by simp only [Act.put,stA,scZ,scS]),(Below.refl _ _).drew,(fun j h=>(by cases h)),BoxS.start⟩
     ·refine ⟨⟨⟨⟨⟨⟨⟨⟨⟨⟨⟨⟨⟨trivial,?_⟩,?_⟩,?_⟩,?_⟩,?_⟩,?_⟩,?_⟩,?_⟩,?_⟩,?_⟩,?_⟩,?_⟩,?_⟩
      ·as_aux_lemma =>
       intro f ax wx hJ hf hd K' hK
       obtain ⟨x0,x1,x2,x3,x4,x5,x6,x7,x8,x9,x10,x11,x12,hax,hB,hp,hq⟩:=hJ
       simp only [Act.put,stA,scZ,scS] at hax
       subst hax
       have HK:=Lh hK
       have HP:=Lh hp
       have HQ:=Lh hq
       have HF:=Lh hf
       clear hK hp hq hf hd
       go_simp
       go_wp2_with (go_at_call 9;refine (TW.out _).mono ?_;rintro e w3 ⟨rfl,hb⟩)
       exact HK.out _ _ ⟨cfgV 2 9 4 2 2 8,x1,x2,x3,x4,x5,x6,x7,x8,x9,x10,x11,x12,(by simp only [Act.put,stA,scZ,scS]),hB.trans (hb.mono hB.size),stepB [x0,x1,x2,x3,x4,x5,x6,x7,x8,x9,x10,x11,x12] 0 (cfgV 2 9 4 2 2 8) hb HP.out (by simp) rfl,HQ.out.grow (by decide) (by decide) hb (fun g k=>(by obtain ⟨A8,c8,q1,q2⟩:=k;exact ⟨A8,c8,q1.below hb q1.lt,q2.below hb⟩))⟩
      ·as_aux_lemma =>
       intro f ax wx hJ hf hd K' hK
       obtain ⟨x0,x1,x2,x3,x4,x5,x6,x7,x8,x9,x10,x11,x12,hax,hB,hp,hq⟩:=hJ
       simp only [Act.put,stA,scZ,scS] at hax
       subst hax
       have HK:=Lh hK
       have HP:=Lh hp
       have HQ:=Lh hq
       have HF:=Lh hf
       clear hK hp hq hf hd
       obtain ⟨XD_0,XD_1⟩:=(XD.out.below hB XD.out.lt).two_
       go_simp
       exact HK.out _ _ ⟨x0,.agg #[.slice D nS d,.slice D' 0 d'],x2,x3,x4,x5,x6,x7,x8,x9,x10,x11,x12,(by simp only [Act.put,stA,scZ,scS]),hB,stepP [x0,x1,x2,x3,x4,x5,x6,x7,x8,x9,x10,x11,x12] 1 (.agg #[.slice D nS d,.slice D' 0 d']) HP.out (by simp) rfl,HQ.out.pure (by decide) (by decide)⟩
      ·as_aux_lemma =>
       intro f ax wx hJ hf hd K' hK
       obtain ⟨x0,x1,x2,x3,x4,x5,x6,x7,x8,x9,x10,x11,x12,hax,hB,hp,hq⟩:=hJ
       simp only [Act.put,stA,scZ,scS] at hax
       subst hax
       have HK:=Lh hK
       have HP:=Lh hp
       have HQ:=Lh hq
       have HF:=Lh hf
       clear hK hp hq hf hd
       obtain ⟨XM_0,XM_1,XM_2,XM_3,XM_4,XM_5⟩:=(XM.out.below hB XM.out.lt).met
       go_simp
       exact HK.out _ _ ⟨x0,x1,.agg #[.int .u32 1,.int .i64 0,.int .u64 0,.int .i64 0,.int .i64 0,.slice B0 0 k0],x3,x4,x5,x6,x7,x8,x9,x10,x11,x12,(by simp only [Act.put,stA,scZ,scS]),hB,stepP [x0,x1,x2,x3,x4,x5,x6,x7,x8,x9,x10,x11,x12] 2 (.agg #[.int .u32 1,.int .i64 0,.int .u64 0,.int .i64 0,.int .i64 0,.slice B0 0 k0]) HP.out (by simp) rfl,HQ.out.pure (by decide) (by decide)⟩
      ·as_aux_lemma =>
       intro f ax wx hJ hf hd K' hK
       obtain ⟨x0,x1,x2,x3,x4,x5,x6,x7,x8,x9,x10,x11,x12,hax,hB,hp,hq⟩:=hJ
       simp only [Act.put,stA,scZ,scS] at hax
       subst hax
       have HK:=Lh hK
       have HP:=Lh hp
       have HQ:=Lh hq
       have HF:=Lh hf
       clear hK hp hq hf hd
       go_simp
       go_wp2_with (go_at_call 11;refine (NT.out _).mono ?_;rintro e w3 ⟨A7,c7,rfl,hown,hb⟩)
       exact HK.out _ _ ⟨x0,x1,x2,.slice A7 14 c7,x4,x5,x6,x7,x8,x9,x10,x11,x12,(by simp only [Act.put,stA,scZ,scS]),hB.trans (hb.mono hB.size),stepB [x0,x1,x2,x3,x4,x5,x6,x7,x8,x9,x10,x11,x12] 3 (.slice A7 14 c7) hb HP.out (by simp) ⟨A7,c7,rfl,Arg.own hown⟩,HQ.out.grow (by decide) (by decide) hb (fun g k=>(by obtain ⟨A8,c8,q1,q2⟩:=k;exact ⟨A8,c8,q1.below hb q1.lt,q2.below hb⟩))⟩
      ·as_aux_lemma =>
       intro f ax wx hJ hf hd K' hK
       obtain ⟨x0,x1,x2,x3,x4,x5,x6,x7,x8,x9,x10,x11,x12,hax,hB,hp,hq⟩:=hJ
       simp only [Act.put,stA,scZ,scS] at hax
       subst hax
       have HK:=Lh hK
       have e0:x0=cfgV 2 9 4 2 2 8:=hp 0 (deps_at (k:=0) rfl rfl rfl hd)
       subst e0
       have e1:x1=.agg #[.slice D nS d,.slice D' 0 d']:=hp 1 (deps_at (k:=1) rfl rfl rfl hd)
       subst e1
       have e2:x2=.agg #[.int .u32 1,.int .i64 0,.int .u64 0,.int .i64 0,.int .i64 0,.slice B0 0 k0]:=hp 2 (deps_at (k:=2) rfl rfl rfl hd)
       subst e2
       obtain ⟨A7,c7,e3,f3⟩:=hp 3 (deps_at (k:=3) rfl rfl rfl hd)
       subst e3
       have F3:=Lh f3
       clear f3
       have HP:=Lh hp
       have HQ:=Lh hq
       have HF:=Lh hf
       clear hK hp hq hf hd
       go_simp
       go_wp2_with (go_at_call 10;refine (P3.out _ _ _ (Dsk.of_own (HD.out.below hB)) (Recs.of_own (HR.out.below hB)) F3.out).mono ?_;rintro e w3 ⟨A8,c8,A9,c9,rfl,hown,hacts,hb⟩)
       exact HK.out _ _ ⟨cfgV 2 9 4 2 2 8,.agg #[.slice D nS d,.slice D' 0 d'],.agg #[.int .u32 1,.int .i64 0,.int .u64 0,.int .i64 0,.int .i64 0,.slice B0 0 k0],.slice A7 14 c7,.tuple #[metV 1 0 0 1 0 A8 1 c8,.slice A9 2 c9,.int .i64 0],x5,x6,x7,x8,x9,x10,x11,x12,(by simp only [Act.put,stA,scZ,scS]),hB.trans (hb.mono hB.size),stepB [cfgV 2 9 4 2 2 8,.agg #[.slice D nS d,.slice D' 0 d'],.agg #[.int .u32 1,.int .i64 0,.int .u64 0,.int .i64 0,.int .i64 0,.slice B0 0 k0],.slice A7 14 c7,x4,x5,x6,x7,x8,x9,x10,x11,x12] 4 (.tuple #[metV 1 0 0 1 0 A8 1 c8,.slice A9 2 c9,.int .i64 0]) hb HP.out (by simp) ⟨A8,c8,A9,c9,rfl,hown.lower (Nat.le_trans B.out.size hB.size),hacts.lower (Nat.le_trans B.out.size hB.size)⟩,HQ.out.grow (by decide) (by decide) hb (fun g k=>(by obtain ⟨A8,c8,q1,q2⟩:=k;exact ⟨A8,c8,q1.below hb q1.lt,q2.below hb⟩))⟩
      ·as_aux_lemma =>
       intro f ax wx hJ hf hd K' hK
       obtain ⟨x0,x1,x2,x3,x4,x5,x6,x7,x8,x9,x10,x11,x12,hax,hB,hp,hq⟩:=hJ
       simp only [Act.put,stA,scZ,scS] at hax
       subst hax
       have HK:=Lh hK
       obtain ⟨A8,c8,A9,c9,e4,f4⟩:=hp 4 (deps_at (k:=0) rfl rfl rfl hd)
       subst e4
       have F4:=Lh f4
       clear f4
       have HP:=Lh hp
       have HQ:=Lh hq
       have HF:=Lh hf
       clear hK hp hq hf hd
       go_simp
       exact HK.out _ _ ⟨x0,x1,x2,x3,.tuple #[metV 1 0 0 1 0 A8 1 c8,.slice A9 2 c9,.int .i64 0],.tuple #[metV 1 0 0 1 0 A8 1 c8,.slice A9 2 c9,.int .i64 0],x6,x7,x8,x9,x10,x11,x12,(by simp only [Act.put,stA,scZ,scS]),hB,stepP [x0,x1,x2,x3,.tuple #[metV 1 0 0 1 0 A8 1 c8,.slice A9 2 c9,.int .i64 0],x5,x6,x7,x8,x9,x10,x11,x12] 5 (.tuple #[metV 1 0 0 1 0 A8 1 c8,.slice A9 2 c9,.int .i64 0]) HP.out (by simp) ⟨A8,c8,A9,c9,rfl,F4.out⟩,HQ.out.pure (by decide) (by decide)⟩
      ·as_aux_lemma =>
       intro f ax wx hJ hf hd K' hK
       obtain ⟨x0,x1,x2,x3,x4,x5,x6,x7,x8,x9,x10,x11,x12,hax,hB,hp,hq⟩:=hJ
       simp only [Act.put,stA,scZ,scS] at hax
       subst hax
       have HK:=Lh hK
       obtain ⟨A8,c8,A9,c9,e5,f5⟩:=hp 5 (deps_at (k:=0) rfl rfl rfl hd)
       subst e5
       have F5:=Lh f5
       clear f5
       have HP:=Lh hp
       have HQ:=Lh hq
       have HF:=Lh hf
       clear hK hp hq hf hd
       go_simp
       exact HK.out _ _ ⟨x0,x1,x2,x3,x4,.tuple #[metV 1 0 0 1 0 A8 1 c8,.slice A9 2 c9,.int .i64 0],metV 1 0 0 1 0 A8 1 c8,x7,x8,x9,x10,x11,x12,(by simp only [Act.put,stA,scZ,scS]),hB,stepP [x0,x1,x2,x3,x4,.tuple #[metV 1 0 0 1 0 A8 1 c8,.slice A9 2 c9,.int .i64 0],x6,x7,x8,x9,x10,x11,x12] 6 (metV 1 0 0 1 0 A8 1 c8) HP.out (by simp) ⟨A8,c8,rfl,F5.out.1⟩,HQ.out.pure (by decide) (by decide)⟩
      ·as_aux_lemma =>
       intro f ax wx hJ hf hd K' hK
       obtain ⟨x0,x1,x2,x3,x4,x5,x6,x7,x8,x9,x10,x11,x12,hax,hB,hp,hq⟩:=hJ
       simp only [Act.put,stA,scZ,scS] at hax
       subst hax
       have HK:=Lh hK
       obtain ⟨A8,c8,A9,c9,e5,f5⟩:=hp 5 (deps_at (k:=0) rfl rfl rfl hd)
       subst e5
       have F5:=Lh f5
       clear f5
       have HP:=Lh hp
       have HQ:=Lh hq
       have HF:=Lh hf
       clear hK hp hq hf hd
       go_simp
       exact HK.out _ _ ⟨x0,x1,x2,x3,x4,.tuple #[metV 1 0 0 1 0 A8 1 c8,.slice A9 2 c9,.int .i64 0],x6,.slice A9 2 c9,x8,x9,x10,x11,x12,(by simp only [Act.put,stA,scZ,scS]),hB,stepP [x0,x1,x2,x3,x4,.tuple #[metV 1 0 0 1 0 A8 1 c8,.slice A9 2 c9,.int .i64 0],x6,x7,x8,x9,x10,x11,x12] 7 (.slice A9 2 c9) HP.out (by simp) ⟨A9,c9,rfl,F5.out.2⟩,HQ.out.pure (by decide) (by decide)⟩
      ·as_aux_lemma =>
       intro f ax wx hJ hf hd K' hK
       obtain ⟨x0,x1,x2,x3,x4,x5,x6,x7,x8,x9,x10,x11,x12,hax,hB,hp,hq⟩:=hJ
       simp only [Act.put,stA,scZ,scS] at hax
       subst hax
       have HK:=Lh hK
       obtain ⟨A8,c8,A9,c9,e5,f5⟩:=hp 5 (deps_at (k:=0) rfl rfl rfl hd)
       subst e5
       have F5:=Lh f5
       clear f5
       have HP:=Lh hp
       have HQ:=Lh hq
       have HF:=Lh hf
       clear hK hp hq hf hd
       go_simp
       exact HK.out _ _ ⟨x0,x1,x2,x3,x4,.tuple #[metV 1 0 0 1 0 A8 1 c8,.slice A9 2 c9,.int .i64 0],x6,x7,.int .i64 0,x9,x10,x11,x12,(by simp only [Act.put,stA,scZ,scS]),hB,stepP [x0,x1,x2,x3,x4,.tuple #[metV 1 0 0 1 0 A8 1 c8,.slice A9 2 c9,.int .i64 0],x6,x7,x8,x9,x10,x11,x12] 8 (.int .i64 0) HP.out (by simp) rfl,HQ.out.pure (by decide) (by decide)⟩
      ·as_aux_lemma =>
       intro f ax wx hJ hf hd K' hK
       obtain ⟨x0,x1,x2,x3,x4,x5,x6,x7,x8,x9,x10,x11,x12,hax,hB,hp,hq⟩:=hJ
       simp only [Act.put,stA,scZ,scS] at hax
       subst hax
       have HK:=Lh hK
       have HP:=Lh hp
       have HQ:=Lh hq
       have HF:=Lh hf
       clear hK hp hq hf hd
       go_simp
       exact HK.out _ _ ⟨x0,x1,x2,x3,x4,x5,x6,x7,x8,.pointer (some ⟨wx.heap.size,0,none⟩),x10,x11,x12,(by simp only [Act.put,stA,scZ,scS]),hB.trans (((Below.refl _ _).alloc (Nat.le_refl _) _).mono hB.size),stepB [x0,x1,x2,x3,x4,x5,x6,x7,x8,x9,x10,x11,x12] 9 (.pointer (some ⟨wx.heap.size,0,none⟩)) ((Below.refl _ _).alloc (Nat.le_refl _) _) HP.out (by simp) trivial,HQ.out.alloc HF.out (by decide) hB.size⟩
      ·as_aux_lemma =>
       intro f ax wx hJ hf hd K' hK
       obtain ⟨x0,x1,x2,x3,x4,x5,x6,x7,x8,x9,x10,x11,x12,hax,hB,hp,hq⟩:=hJ
       simp only [Act.put,stA,scZ,scS] at hax
       subst hax
       have HK:=Lh hK
       obtain ⟨A9z,c9z,e6,f6⟩:=hp 6 (deps_at (k:=1) rfl rfl rfl hd)
       subst e6
       have F6:=Lh f6
       clear f6
       have qa:=deps_at (k:=0) rfl rfl rfl hd
       obtain ⟨hg,eg,lg,zg,_⟩:=hq.2 qa
       have ZG:=Lh (zg hf)
       subst eg
       clear zg
       have HP:=Lh hp
       have HQ:=Lh hq
       have HF:=Lh hf
       clear hK hp hq hf hd
       obtain ⟨z0,z1,z2,z3,z4,z5⟩:=ZG.out.met
       have fz:=ZG.out.free
       go_simp
       exact HK.out _ _ ⟨x0,x1,x2,x3,x4,x5,metV 1 0 0 1 0 A9z 1 c9z,x7,x8,.pointer (some ⟨hg,0,none⟩),x10,x11,x12,(by simp only [Act.put,stA,scZ,scS]),below_sixM hB lg 1 0 0 1 0 A9z 1 c9z,stepT [x0,x1,x2,x3,x4,x5,metV 1 0 0 1 0 A9z 1 c9z,x7,x8,.pointer (some ⟨hg,0,none⟩),x10,x11,x12] 10 x10 HP.out (fun c _ k=>c.sto (stM.six ZG.out 1 0 0 1 0 A9z 1 c9z) k) (by simp) trivial,HQ.out.store qa (by decide) (fun g e=>(by cases e;exact ⟨A9z,c9z,ZG.out.sixM 1 0 0 1 0 A9z 1 c9z,F6.out.boxSix ZG.out 1 0 0 1 0 A9z 1 c9z⟩))⟩
      ·as_aux_lemma =>
       intro f ax wx hJ hf hd K' hK
       obtain ⟨x0,x1,x2,x3,x4,x5,x6,x7,x8,x9,x10,x11,x12,hax,hB,hp,hq⟩:=hJ
       simp only [Act.put,stA,scZ,scS] at hax
       subst hax
       have HK:=Lh hK
       obtain ⟨A9,c9,e7,f7⟩:=hp 7 (deps_at (k:=0) rfl rfl rfl hd)
       subst e7
       have F7:=Lh f7
       clear f7
       have HP:=Lh hp
       have HQ:=Lh hq
       have HF:=Lh hf
       clear hK hp hq hf hd
       go_simp
       exact HK.out _ _ ⟨x0,x1,x2,x3,x4,x5,x6,.slice A9 2 c9,x8,x9,x10,.slice A9 2 c9,x12,(by simp only [Act.put,stA,scZ,scS]),hB,stepP [x0,x1,x2,x3,x4,x5,x6,.slice A9 2 c9,x8,x9,x10,x11,x12] 11 (.slice A9 2 c9) HP.out (by simp) ⟨A9,c9,rfl,F7.out⟩,HQ.out.pure (by decide) (by decide)⟩
      ·as_aux_lemma =>
       intro f ax wx hJ hf hd K' hK
       obtain ⟨x0,x1,x2,x3,x4,x5,x6,x7,x8,x9,x10,x11,x12,hax,hB,hp,hq⟩:=hJ
       simp only [Act.put,stA,scZ,scS] at hax
       subst hax
       have HK:=Lh hK
       have e8:x8=.int .i64 0:=hp 8 (deps_at (k:=0) rfl rfl rfl hd)
       subst e8
       have HP:=Lh hp
       have HQ:=Lh hq
       have HF:=Lh hf
       clear hK hp hq hf hd
       go_simp
       exact HK.out _ _ ⟨x0,x1,x2,x3,x4,x5,x6,x7,.int .i64 0,x9,x10,x11,.int .i64 0,(by simp only [Act.put,stA,scZ,scS]),hB,stepP [x0,x1,x2,x3,x4,x5,x6,x7,.int .i64 0,x9,x10,x11,x12] 12 (.int .i64 0) HP.out (by simp) rfl,HQ.out.pure (by decide) (by decide)⟩
     ·as_aux_lemma =>
      intro f ax v15 hall hJ fuel
      obtain ⟨x0,x1,x2,x3,x4,x5,x6,x7,x8,x9,x10,x11,x12,hax,hB,hp,hq⟩:=hJ
      simp only [Act.put,stA,scZ,scS] at hax
      have e0:x0=cfgV 2 9 4 2 2 8:=hp 0 (hall 0 (by decide))
      subst e0
      have e1:x1=.agg #[.slice D nS d,.slice D' 0 d']:=hp 1 (hall 1 (by decide))
      subst e1
      have e2:x2=.agg #[.int .u32 1,.int .i64 0,.int .u64 0,.int .i64 0,.int .i64 0,.slice B0 0 k0]:=hp 2 (hall 2 (by decide))
      subst e2
      obtain ⟨A7,c7,e3,f3⟩:=hp 3 (hall 3 (by decide))
      subst e3
      have F3:=Lh f3
      clear f3
      obtain ⟨A8,c8,A9,c9,e4,f4⟩:=hp 4 (hall 4 (by decide))
      subst e4
      have F4:=Lh f4
      clear f4
      obtain ⟨A8,c8,A9,c9,e5,f5⟩:=hp 5 (hall 5 (by decide))
      subst e5
      have F5:=Lh f5
      clear f5
      obtain ⟨A8,c8,e6,f6⟩:=hp 6 (hall 6 (by decide))
      subst e6
      have F6:=Lh f6
      clear f6
      obtain ⟨A9,c9,e7,f7⟩:=hp 7 (hall 7 (by decide))
      subst e7
      have F7:=Lh f7
      clear f7
      have e8:x8=.int .i64 0:=hp 8 (hall 8 (by decide))
      subst e8
      obtain ⟨A9,c9,e11,f11⟩:=hp 11 (hall 11 (by decide))
      subst e11
      have F11:=Lh f11
      clear f11
      have e12:x12=.int .i64 0:=hp 12 (hall 12 (by decide))
      subst e12
      obtain ⟨hg,eg,lg,_,fg⟩:=hq.2 (hall 9 (by decide))
      have FG:=fg (hall 10 (by decide))
      subst eg
      subst hax
      clear hp hq fg hall
      refine wpAny_done (by kernel_rfl) ?_ _
      dsimp only
      obtain ⟨A20,c20,hz20,ho20⟩:=FG
      have OL_:=Lh F11.out
      have X20:=Lh hz20
      have O20:=Lh ho20
      have B:=Lh (B.out.trans (hB.mono B.out.size))
      have HD:=Lh (HD.out.below hB)
      have HR:=Lh (HR.out.below hB)
      have XD:=Lh (XD.out.below hB XD.out.lt)
      have XM:=Lh (XM.out.below hB XM.out.lt)
      have XW:=Lh (XW.out.below hB XW.out.lt)
      clear hB hz20 ho20 lg F3 F4 F5 F6 F7 F11 P3 NT
      obtain ⟨LA,hoa,hax⟩:=OL_.out.is
      have HD0:=Lh HD.out
      have LB0:=Lh B.out.size
      rw [HNS.out] at HD0
      have DN:=Lh (done12_any D d D' d' S [] A9 2 c9 _ LA L 2 S' [] _ (Dsk.of_own HD0.out) HS.out hoa hax HDN.out OL_.out.byte (by decide))
      rw [← HNS.out,← HNS'.out] at DN
      clear hoa hax
      obtain ⟨XD_0,XD_1⟩:=XD.out.two_
      go_wp2_with fail
      clear XD_0 XD_1
      refine (DN.out).mono ?_
      rintro e v16 ⟨A23,c23,A23',c23',rfl,hdd,hsd,hb⟩
      have hY:=Blk.new v16 25 [.slice A23 nS' c23,.slice A23' 0 c23']
      have hk:Below v16.heap.size v16 (v16.alloc (.cells #[.slice A23 nS' c23,.slice A23' 0 c23'] 25)):=(Below.refl _ _).alloc (Nat.le_refl _) _
      have hb0:=hb
      replace hb:=hb.trans (hk.mono hb.size)
      have B:=Lh (B.out.trans (hb.mono B.out.size))
      have HD:=Lh (HD.out.below hb)
      have HR:=Lh (HR.out.below hb)
      have XD:=Lh (XD.out.below hb XD.out.lt)
      have XM:=Lh (XM.out.below hb XM.out.lt)
      have XW:=Lh (XW.out.below hb XW.out.lt)
      have X20:=Lh (X20.out.below hb X20.out.lt)
      have O20:=Lh (O20.out.below hb)
      have D23:=Lh ((hdd.own (HD0.out.below hb0) LB0.out).below hk)
      have S23:=Lh (hsd)
      have X23:=Lh hY
      clear hY hk hb0
      clear hb OL_ DN HD0 LB0 hdd hsd HS HDN
      rw [← HNS'.out] at D23
      have PX:=Lh (fun wx hx hy=>porderly_any 2 9 4 2 2 8 A23 S'.length c23 A23' 0 c23' S' [] 1 0 0 0 0 B0 0 k0 [] wx hx S23.out IS.out hy (by decide))
      have PY:=Lh (fun wx hx hy=>porderly_any 2 9 4 2 2 8 A23 S'.length c23 A23' 0 c23' S' [] 1 0 0 1 0 A20 1 c20 [noteR 0 1] wx hx S23.out IS.out hy (by decide))
      rw [OL.out,OE.out] at PX
      rw [NO.out,NE.out] at PY
      rw [← HNS'.out] at PX PY
      clear OL OE NO NE S23 IS
      clear HD XD
      go_upto_region 15 with fail
      obtain ⟨v17,hv17⟩:∃ y,y=v16.alloc (.cells #[.slice A23 nS' c23,.slice A23' 0 c23'] 25):=⟨_,rfl⟩
      rw [← hv17] at B HR XM XW X20 O20 D23 X23 ⊢
      clear hv17
      refine wp_region_upto2 rfl 9 (fun a0 f ax wx=>∃ x0 x1 x2 x3 x4 x5 x6 x7 x8:Value,ax=(((((((((a0.put (some 100) x0).put (some 101) x1).put (some 102) x2).put (some 103) x3).put (some 99) x4).put (some 104) x5).put (some 105) x6).put (some 25) x7).put (some 26) x8)∧Below v17.heap.size v17 wx∧(∀ jq,f jq=true→(([(Cl.is (cfgV 2 9 4 2 2 8)),(Cl.is (.agg #[.slice A23 nS' c23,.slice A23' 0 c23'])),(Cl.is (.agg #[.int .u32 1,.int .i64 0,.int .u64 0,.int .i64 0,.int .i64 0,.slice B0 0 k0])),(Cl.is (.tuple #[.bool false,.int .i64 0])),(Cl.is (.tuple #[.bool false,.int .i64 0])),(Cl.is (.bool false)),(Cl.is (.int .i64 0)),(Cl.is (.bool false)),(Cl.is (.int .i64 0))]:List (Cl stN)).getD jq Cl.any).p ([x0,x1,x2,x3,x4,x5,x6,x7,x8].getD jq undef) wx)) (by decide) (by kernel_rfl) ?_ ?_ ?_
      ·exact ⟨undef,undef,undef,undef,undef,undef,undef,undef,undef,(by simp only [Act.put,stA,scZ,scS]),(Below.refl _ _).drew,(fun j h=>(by cases h))⟩
      ·refine ⟨⟨⟨⟨⟨⟨⟨⟨⟨trivial,?_⟩,?_⟩,?_⟩,?_⟩,?_⟩,?_⟩,?_⟩,?_⟩,?_⟩
       ·as_aux_lemma =>
        intro f ax wx hJ hf hd K' hK
        obtain ⟨x0,x1,x2,x3,x4,x5,x6,x7,x8,hax,hB,hp⟩:=hJ
        simp only [Act.put,stA,scZ,scS] at hax
        subst hax
        have HK:=Lh hK
        have HP:=Lh hp
        clear hK hp hf hd
        go_simp
        go_wp2_with (go_at_call 9;refine (TW.out _).mono ?_;rintro e w3 ⟨rfl,hb⟩)
        exact HK.out _ _ ⟨cfgV 2 9 4 2 2 8,x1,x2,x3,x4,x5,x6,x7,x8,(by simp only [Act.put,stA,scZ,scS]),hB.trans (hb.mono hB.size),stepB [x0,x1,x2,x3,x4,x5,x6,x7,x8] 0 (cfgV 2 9 4 2 2 8) hb HP.out (by simp) rfl⟩
       ·as_aux_lemma =>
        intro f ax wx hJ hf hd K' hK
        obtain ⟨x0,x1,x2,x3,x4,x5,x6,x7,x8,hax,hB,hp⟩:=hJ
        simp only [Act.put,stA,scZ,scS] at hax
        subst hax
        have HK:=Lh hK
        have HP:=Lh hp
        clear hK hp hf hd
        obtain ⟨X23_0,X23_1⟩:=(X23.out.below hB X23.out.lt).two_
        go_simp
        exact HK.out _ _ ⟨x0,.agg #[.slice A23 nS' c23,.slice A23' 0 c23'],x2,x3,x4,x5,x6,x7,x8,(by simp only [Act.put,stA,scZ,scS]),hB,stepP [x0,x1,x2,x3,x4,x5,x6,x7,x8] 1 (.agg #[.slice A23 nS' c23,.slice A23' 0 c23']) HP.out (by simp) rfl⟩
       ·as_aux_lemma =>
        intro f ax wx hJ hf hd K' hK
        obtain ⟨x0,x1,x2,x3,x4,x5,x6,x7,x8,hax,hB,hp⟩:=hJ
        simp only [Act.put,stA,scZ,scS] at hax
        subst hax
        have HK:=Lh hK
        have HP:=Lh hp
        clear hK hp hf hd
        obtain ⟨XM_0,XM_1,XM_2,XM_3,XM_4,XM_5⟩:=(XM.out.below hB XM.out.lt).met
        go_simp
        exact HK.out _ _ ⟨x0,x1,.agg #[.int .u32 1,.int .i64 0,.int .u64 0,.int .i64 0,.int .i64 0,.slice B0 0 k0],x3,x4,x5,x6,x7,x8,(by simp only [Act.put,stA,scZ,scS]),hB,stepP [x0,x1,x2,x3,x4,x5,x6,x7,x8] 2 (.agg #[.int .u32 1,.int .i64 0,.int .u64 0,.int .i64 0,.int .i64 0,.slice B0 0 k0]) HP.out (by simp) rfl⟩
       ·as_aux_lemma =>
        intro f ax wx hJ hf hd K' hK
        obtain ⟨x0,x1,x2,x3,x4,x5,x6,x7,x8,hax,hB,hp⟩:=hJ
        simp only [Act.put,stA,scZ,scS] at hax
        subst hax
        have HK:=Lh hK
        have e0:x0=cfgV 2 9 4 2 2 8:=hp 0 (deps_at (k:=0) rfl rfl rfl hd)
        subst e0
        have e1:x1=.agg #[.slice A23 nS' c23,.slice A23' 0 c23']:=hp 1 (deps_at (k:=1) rfl rfl rfl hd)
        subst e1
        have e2:x2=.agg #[.int .u32 1,.int .i64 0,.int .u64 0,.int .i64 0,.int .i64 0,.slice B0 0 k0]:=hp 2 (deps_at (k:=2) rfl rfl rfl hd)
        subst e2
        have HP:=Lh hp
        clear hK hp hf hd
        go_simp
        go_wp2_with (go_at_call 14;refine (PX.out _ (Dsk.of_own (D23.out.below hB)) (Recs.of_own (HR.out.below hB))).mono ?_;rintro e w3 ⟨rfl,hb⟩)
        exact HK.out _ _ ⟨cfgV 2 9 4 2 2 8,.agg #[.slice A23 nS' c23,.slice A23' 0 c23'],.agg #[.int .u32 1,.int .i64 0,.int .u64 0,.int .i64 0,.int .i64 0,.slice B0 0 k0],.tuple #[.bool false,.int .i64 0],x4,x5,x6,x7,x8,(by simp only [Act.put,stA,scZ,scS]),hB.trans (hb.mono hB.size),stepB [cfgV 2 9 4 2 2 8,.agg #[.slice A23 nS' c23,.slice A23' 0 c23'],.agg #[.int .u32 1,.int .i64 0,.int .u64 0,.int .i64 0,.int .i64 0,.slice B0 0 k0],x3,x4,x5,x6,x7,x8] 3 (.tuple #[.bool false,.int .i64 0]) hb HP.out (by simp) rfl⟩
       ·as_aux_lemma =>
        intro f ax wx hJ hf hd K' hK
        obtain ⟨x0,x1,x2,x3,x4,x5,x6,x7,x8,hax,hB,hp⟩:=hJ
        simp only [Act.put,stA,scZ,scS] at hax
        subst hax
        have HK:=Lh hK
        have e3:x3=.tuple #[.bool false,.int .i64 0]:=hp 3 (deps_at (k:=0) rfl rfl rfl hd)
        subst e3
        have HP:=Lh hp
        clear hK hp hf hd
        go_simp
        exact HK.out _ _ ⟨x0,x1,x2,.tuple #[.bool false,.int .i64 0],.tuple #[.bool false,.int .i64 0],x5,x6,x7,x8,(by simp only [Act.put,stA,scZ,scS]),hB,stepP [x0,x1,x2,.tuple #[.bool false,.int .i64 0],x4,x5,x6,x7,x8] 4 (.tuple #[.bool false,.int .i64 0]) HP.out (by simp) rfl⟩
       ·as_aux_lemma =>
        intro f ax wx hJ hf hd K' hK
        obtain ⟨x0,x1,x2,x3,x4,x5,x6,x7,x8,hax,hB,hp⟩:=hJ
        simp only [Act.put,stA,scZ,scS] at hax
        subst hax
        have HK:=Lh hK
        have e4:x4=.tuple #[.bool false,.int .i64 0]:=hp 4 (deps_at (k:=0) rfl rfl rfl hd)
        subst e4
        have HP:=Lh hp
        clear hK hp hf hd
        go_simp
        exact HK.out _ _ ⟨x0,x1,x2,x3,.tuple #[.bool false,.int .i64 0],.bool false,x6,x7,x8,(by simp only [Act.put,stA,scZ,scS]),hB,stepP [x0,x1,x2,x3,.tuple #[.bool false,.int .i64 0],x5,x6,x7,x8] 5 (.bool false) HP.out (by simp) rfl⟩
       ·as_aux_lemma =>
        intro f ax wx hJ hf hd K' hK
        obtain ⟨x0,x1,x2,x3,x4,x5,x6,x7,x8,hax,hB,hp⟩:=hJ
        simp only [Act.put,stA,scZ,scS] at hax
        subst hax
        have HK:=Lh hK
        have e4:x4=.tuple #[.bool false,.int .i64 0]:=hp 4 (deps_at (k:=0) rfl rfl rfl hd)
        subst e4
        have HP:=Lh hp
        clear hK hp hf hd
        go_simp
        exact HK.out _ _ ⟨x0,x1,x2,x3,.tuple #[.bool false,.int .i64 0],x5,.int .i64 0,x7,x8,(by simp only [Act.put,stA,scZ,scS]),hB,stepP [x0,x1,x2,x3,.tuple #[.bool false,.int .i64 0],x5,x6,x7,x8] 6 (.int .i64 0) HP.out (by simp) rfl⟩
       ·as_aux_lemma =>
        intro f ax wx hJ hf hd K' hK
        obtain ⟨x0,x1,x2,x3,x4,x5,x6,x7,x8,hax,hB,hp⟩:=hJ
        simp only [Act.put,stA,scZ,scS] at hax
        subst hax
        have HK:=Lh hK
        have e5:x5=.bool false:=hp 5 (deps_at (k:=0) rfl rfl rfl hd)
        subst e5
        have HP:=Lh hp
        clear hK hp hf hd
        go_simp
        exact HK.out _ _ ⟨x0,x1,x2,x3,x4,.bool false,x6,.bool false,x8,(by simp only [Act.put,stA,scZ,scS]),hB,stepP [x0,x1,x2,x3,x4,.bool false,x6,x7,x8] 7 (.bool false) HP.out (by simp) rfl⟩
       ·as_aux_lemma =>
        intro f ax wx hJ hf hd K' hK
        obtain ⟨x0,x1,x2,x3,x4,x5,x6,x7,x8,hax,hB,hp⟩:=hJ
        simp only [Act.put,stA,scZ,scS] at hax
        subst hax
        have HK:=Lh hK
        have e6:x6=.int .i64 0:=hp 6 (deps_at (k:=0) rfl rfl rfl hd)
        subst e6
        have HP:=Lh hp
        clear hK hp hf hd
        go_simp
        exact HK.out _ _ ⟨x0,x1,x2,x3,x4,x5,.int .i64 0,x7,.int .i64 0,(by simp only [Act.put,stA,scZ,scS]),hB,stepP [x0,x1,x2,x3,x4,x5,.int .i64 0,x7,x8] 8 (.int .i64 0) HP.out (by simp) rfl⟩
      ·as_aux_lemma =>
       intro f ax v18 hall hJ fuel
       obtain ⟨x0,x1,x2,x3,x4,x5,x6,x7,x8,hax,hB,hp⟩:=hJ
       simp only [Act.put,stA,scZ,scS] at hax
       have e0:x0=cfgV 2 9 4 2 2 8:=hp 0 (hall 0 (by decide))
       subst e0
       have e1:x1=.agg #[.slice A23 nS' c23,.slice A23' 0 c23']:=hp 1 (hall 1 (by decide))
       subst e1
       have e2:x2=.agg #[.int .u32 1,.int .i64 0,.int .u64 0,.int .i64 0,.int .i64 0,.slice B0 0 k0]:=hp 2 (hall 2 (by decide))
       subst e2
       have e3:x3=.tuple #[.bool false,.int .i64 0]:=hp 3 (hall 3 (by decide))
       subst e3
       have e4:x4=.tuple #[.bool false,.int .i64 0]:=hp 4 (hall 4 (by decide))
       subst e4
       have e5:x5=.bool false:=hp 5 (hall 5 (by decide))
       subst e5
       have e6:x6=.int .i64 0:=hp 6 (hall 6 (by decide))
       subst e6
       have e7:x7=.bool false:=hp 7 (hall 7 (by decide))
       subst e7
       have e8:x8=.int .i64 0:=hp 8 (hall 8 (by decide))
       subst e8
       subst hax
       clear hp hall
       refine wpAny_done (by kernel_rfl) ?_ _
       have B:=Lh (B.out.trans (hB.mono B.out.size))
       have HR:=Lh (HR.out.below hB)
       have XM:=Lh (XM.out.below hB XM.out.lt)
       have XW:=Lh (XW.out.below hB XW.out.lt)
       have X20:=Lh (X20.out.below hB X20.out.lt)
       have O20:=Lh (O20.out.below hB)
       have D23:=Lh (D23.out.below hB)
       have X23:=Lh (X23.out.below hB X23.out.lt)
       clear hB
       clear PX
       clear XM
       go_upto_region 16 with fail
       refine wp_region_upto2 rfl 9 (fun a0 f ax wx=>∃ x0 x1 x2 x3 x4 x5 x6 x7 x8:Value,ax=(((((((((a0.put (some 107) x0).put (some 108) x1).put (some 109) x2).put (some 110) x3).put (some 106) x4).put (some 111) x5).put (some 112) x6).put (some 27) x7).put (some 28) x8)∧Below v18.heap.size v18 wx∧(∀ jq,f jq=true→(([(Cl.is (cfgV 2 9 4 2 2 8)),(Cl.is (.agg #[.slice A23 nS' c23,.slice A23' 0 c23'])),(Cl.is (.agg #[.int .u32 1,.int .i64 0,.int .u64 0,.int .i64 1,.int .i64 0,.slice A20 1 c20])),(Cl.is (.tuple #[.bool true,.int .i64 0])),(Cl.is (.tuple #[.bool true,.int .i64 0])),(Cl.is (.bool true)),(Cl.is (.int .i64 0)),(Cl.is (.bool true)),(Cl.is (.int .i64 0))]:List (Cl stN)).getD jq Cl.any).p ([x0,x1,x2,x3,x4,x5,x6,x7,x8].getD jq undef) wx)) (by decide) (by kernel_rfl) ?_ ?_ ?_
       ·exact ⟨undef,undef,undef,undef,undef,undef,undef,undef,undef,(by simp only [Act.put,stA,scZ,scS]),(Below.refl _ _).drew,(fun j h=>(by cases h))⟩
       ·refine ⟨⟨⟨⟨⟨⟨⟨⟨⟨trivial,?_⟩,?_⟩,?_⟩,?_⟩,?_⟩,?_⟩,?_⟩,?_⟩,?_⟩
        ·as_aux_lemma =>
         intro f ax wx hJ hf hd K' hK
         obtain ⟨x0,x1,x2,x3,x4,x5,x6,x7,x8,hax,hB,hp⟩:=hJ
         simp only [Act.put,stA,scZ,scS] at hax
         subst hax
         have HK:=Lh hK
         have HP:=Lh hp
         clear hK hp hf hd
         go_simp
         go_wp2_with (go_at_call 9;refine (TW.out _).mono ?_;rintro e w3 ⟨rfl,hb⟩)
         exact HK.out _ _ ⟨cfgV 2 9 4 2 2 8,x1,x2,x3,x4,x5,x6,x7,x8,(by simp only [Act.put,stA,scZ,scS]),hB.trans (hb.mono hB.size),stepB [x0,x1,x2,x3,x4,x5,x6,x7,x8] 0 (cfgV 2 9 4 2 2 8) hb HP.out (by simp) rfl⟩
        ·as_aux_lemma =>
         intro f ax wx hJ hf hd K' hK
         obtain ⟨x0,x1,x2,x3,x4,x5,x6,x7,x8,hax,hB,hp⟩:=hJ
         simp only [Act.put,stA,scZ,scS] at hax
         subst hax
         have HK:=Lh hK
         have HP:=Lh hp
         clear hK hp hf hd
         obtain ⟨X23_0,X23_1⟩:=(X23.out.below hB X23.out.lt).two_
         go_simp
         exact HK.out _ _ ⟨x0,.agg #[.slice A23 nS' c23,.slice A23' 0 c23'],x2,x3,x4,x5,x6,x7,x8,(by simp only [Act.put,stA,scZ,scS]),hB,stepP [x0,x1,x2,x3,x4,x5,x6,x7,x8] 1 (.agg #[.slice A23 nS' c23,.slice A23' 0 c23']) HP.out (by simp) rfl⟩
        ·as_aux_lemma =>
         intro f ax wx hJ hf hd K' hK
         obtain ⟨x0,x1,x2,x3,x4,x5,x6,x7,x8,hax,hB,hp⟩:=hJ
         simp only [Act.put,stA,scZ,scS] at hax
         subst hax
         have HK:=Lh hK
         have HP:=Lh hp
         clear hK hp hf hd
         obtain ⟨X20_0,X20_1,X20_2,X20_3,X20_4,X20_5⟩:=(X20.out.below hB X20.out.lt).met
         go_simp
         exact HK.out _ _ ⟨x0,x1,.agg #[.int .u32 1,.int .i64 0,.int .u64 0,.int .i64 1,.int .i64 0,.slice A20 1 c20],x3,x4,x5,x6,x7,x8,(by simp only [Act.put,stA,scZ,scS]),hB,stepP [x0,x1,x2,x3,x4,x5,x6,x7,x8] 2 (.agg #[.int .u32 1,.int .i64 0,.int .u64 0,.int .i64 1,.int .i64 0,.slice A20 1 c20]) HP.out (by simp) rfl⟩
        ·as_aux_lemma =>
         intro f ax wx hJ hf hd K' hK
         obtain ⟨x0,x1,x2,x3,x4,x5,x6,x7,x8,hax,hB,hp⟩:=hJ
         simp only [Act.put,stA,scZ,scS] at hax
         subst hax
         have HK:=Lh hK
         have e0:x0=cfgV 2 9 4 2 2 8:=hp 0 (deps_at (k:=0) rfl rfl rfl hd)
         subst e0
         have e1:x1=.agg #[.slice A23 nS' c23,.slice A23' 0 c23']:=hp 1 (deps_at (k:=1) rfl rfl rfl hd)
         subst e1
         have e2:x2=.agg #[.int .u32 1,.int .i64 0,.int .u64 0,.int .i64 1,.int .i64 0,.slice A20 1 c20]:=hp 2 (deps_at (k:=2) rfl rfl rfl hd)
         subst e2
         have HP:=Lh hp
         clear hK hp hf hd
         go_simp
         go_wp2_with (go_at_call 14;refine (PY.out _ (Dsk.of_own (D23.out.below hB)) (Recs.of_own (O20.out.below hB))).mono ?_;rintro e w3 ⟨rfl,hb⟩)
         exact HK.out _ _ ⟨cfgV 2 9 4 2 2 8,.agg #[.slice A23 nS' c23,.slice A23' 0 c23'],.agg #[.int .u32 1,.int .i64 0,.int .u64 0,.int .i64 1,.int .i64 0,.slice A20 1 c20],.tuple #[.bool true,.int .i64 0],x4,x5,x6,x7,x8,(by simp only [Act.put,stA,scZ,scS]),hB.trans (hb.mono hB.size),stepB [cfgV 2 9 4 2 2 8,.agg #[.slice A23 nS' c23,.slice A23' 0 c23'],.agg #[.int .u32 1,.int .i64 0,.int .u64 0,.int .i64 1,.int .i64 0,.slice A20 1 c20],x3,x4,x5,x6,x7,x8] 3 (.tuple #[.bool true,.int .i64 0]) hb HP.out (by simp) rfl⟩
        ·as_aux_lemma =>
         intro f ax wx hJ hf hd K' hK
         obtain ⟨x0,x1,x2,x3,x4,x5,x6,x7,x8,hax,hB,hp⟩:=hJ
         simp only [Act.put,stA,scZ,scS] at hax
         subst hax
         have HK:=Lh hK
         have e3:x3=.tuple #[.bool true,.int .i64 0]:=hp 3 (deps_at (k:=0) rfl rfl rfl hd)
         subst e3
         have HP:=Lh hp
         clear hK hp hf hd
         go_simp
         exact HK.out _ _ ⟨x0,x1,x2,.tuple #[.bool true,.int .i64 0],.tuple #[.bool true,.int .i64 0],x5,x6,x7,x8,(by simp only [Act.put,stA,scZ,scS]),hB,stepP [x0,x1,x2,.tuple #[.bool true,.int .i64 0],x4,x5,x6,x7,x8] 4 (.tuple #[.bool true,.int .i64 0]) HP.out (by simp) rfl⟩
        ·as_aux_lemma =>
         intro f ax wx hJ hf hd K' hK
         obtain ⟨x0,x1,x2,x3,x4,x5,x6,x7,x8,hax,hB,hp⟩:=hJ
         simp only [Act.put,stA,scZ,scS] at hax
         subst hax
         have HK:=Lh hK
         have e4:x4=.tuple #[.bool true,.int .i64 0]:=hp 4 (deps_at (k:=0) rfl rfl rfl hd)
         subst e4
         have HP:=Lh hp
         clear hK hp hf hd
         go_simp
         exact HK.out _ _ ⟨x0,x1,x2,x3,.tuple #[.bool true,.int .i64 0],.bool true,x6,x7,x8,(by simp only [Act.put,stA,scZ,scS]),hB,stepP [x0,x1,x2,x3,.tuple #[.bool true,.int .i64 0],x5,x6,x7,x8] 5 (.bool true) HP.out (by simp) rfl⟩
        ·as_aux_lemma =>
         intro f ax wx hJ hf hd K' hK
         obtain ⟨x0,x1,x2,x3,x4,x5,x6,x7,x8,hax,hB,hp⟩:=hJ
         simp only [Act.put,stA,scZ,scS] at hax
         subst hax
         have HK:=Lh hK
         have e4:x4=.tuple #[.bool true,.int .i64 0]:=hp 4 (deps_at (k:=0) rfl rfl rfl hd)
         subst e4
         have HP:=Lh hp
         clear hK hp hf hd
         go_simp
         exact HK.out _ _ ⟨x0,x1,x2,x3,.tuple #[.bool true,.int .i64 0],x5,.int .i64 0,x7,x8,(by simp only [Act.put,stA,scZ,scS]),hB,stepP [x0,x1,x2,x3,.tuple #[.bool true,.int .i64 0],x5,x6,x7,x8] 6 (.int .i64 0) HP.out (by simp) rfl⟩
        ·as_aux_lemma =>
         intro f ax wx hJ hf hd K' hK
         obtain ⟨x0,x1,x2,x3,x4,x5,x6,x7,x8,hax,hB,hp⟩:=hJ
         simp only [Act.put,stA,scZ,scS] at hax
         subst hax
         have HK:=Lh hK
         have e5:x5=.bool true:=hp 5 (deps_at (k:=0) rfl rfl rfl hd)
         subst e5
         have HP:=Lh hp
         clear hK hp hf hd
         go_simp
         exact HK.out _ _ ⟨x0,x1,x2,x3,x4,.bool true,x6,.bool true,x8,(by simp only [Act.put,stA,scZ,scS]),hB,stepP [x0,x1,x2,x3,x4,.bool true,x6,x7,x8] 7 (.bool true) HP.out (by simp) rfl⟩
        ·as_aux_lemma =>
         intro f ax wx hJ hf hd K' hK
         obtain ⟨x0,x1,x2,x3,x4,x5,x6,x7,x8,hax,hB,hp⟩:=hJ
         simp only [Act.put,stA,scZ,scS] at hax
         subst hax
         have HK:=Lh hK
         have e6:x6=.int .i64 0:=hp 6 (deps_at (k:=0) rfl rfl rfl hd)
         subst e6
         have HP:=Lh hp
         clear hK hp hf hd
         go_simp
         exact HK.out _ _ ⟨x0,x1,x2,x3,x4,x5,.int .i64 0,x7,.int .i64 0,(by simp only [Act.put,stA,scZ,scS]),hB,stepP [x0,x1,x2,x3,x4,x5,.int .i64 0,x7,x8] 8 (.int .i64 0) HP.out (by simp) rfl⟩
       ·as_aux_lemma =>
        intro f ax v19 hall hJ fuel
        obtain ⟨x0,x1,x2,x3,x4,x5,x6,x7,x8,hax,hB,hp⟩:=hJ
        simp only [Act.put,stA,scZ,scS] at hax
        have e0:x0=cfgV 2 9 4 2 2 8:=hp 0 (hall 0 (by decide))
        subst e0
        have e1:x1=.agg #[.slice A23 nS' c23,.slice A23' 0 c23']:=hp 1 (hall 1 (by decide))
        subst e1
        have e2:x2=.agg #[.int .u32 1,.int .i64 0,.int .u64 0,.int .i64 1,.int .i64 0,.slice A20 1 c20]:=hp 2 (hall 2 (by decide))
        subst e2
        have e3:x3=.tuple #[.bool true,.int .i64 0]:=hp 3 (hall 3 (by decide))
        subst e3
        have e4:x4=.tuple #[.bool true,.int .i64 0]:=hp 4 (hall 4 (by decide))
        subst e4
        have e5:x5=.bool true:=hp 5 (hall 5 (by decide))
        subst e5
        have e6:x6=.int .i64 0:=hp 6 (hall 6 (by decide))
        subst e6
        have e7:x7=.bool true:=hp 7 (hall 7 (by decide))
        subst e7
        have e8:x8=.int .i64 0:=hp 8 (hall 8 (by decide))
        subst e8
        subst hax
        clear hp hall
        refine wpAny_done (by kernel_rfl) ?_ _
        have B:=Lh (B.out.trans (hB.mono B.out.size))
        have HR:=Lh (HR.out.below hB)
        have XW:=Lh (XW.out.below hB XW.out.lt)
        have X20:=Lh (X20.out.below hB X20.out.lt)
        have O20:=Lh (O20.out.below hB)
        have D23:=Lh (D23.out.below hB)
        have X23:=Lh (X23.out.below hB X23.out.lt)
        clear hB
        clear PY D23 O20 X23 X20
        go_upto_region 17 with fail
        have hcur:Below v19.heap.size v19 v19.drew:=below_drewN (Below.refl _ _) 1
        have keepX:∀ wx,Below v19.heap.size v19 wx→wx.cell? ⟨GW,0,none⟩=some (.int .u32 1)∧wx.cell? ⟨GW,1,none⟩=some (.int .i64 0)∧wx.cell? ⟨GW,2,none⟩=some (.int .u64 0)∧wx.cell? ⟨GW,3,none⟩=some (.int .i64 5)∧wx.cell? ⟨GW,4,none⟩=some (.int .i64 0)∧wx.cell? ⟨GW,5,none⟩=some (.slice B0 0 k0):=fun wx hx=>(XW.out.below hx XW.out.lt).met
        have hkX:=keepX _ hcur
        go_region_held3 (fun w'=>w'.cell? ⟨GW,0,none⟩=some (.int .u32 1)∧w'.cell? ⟨GW,1,none⟩=some (.int .i64 0)∧w'.cell? ⟨GW,2,none⟩=some (.int .u64 0)∧w'.cell? ⟨GW,3,none⟩=some (.int .i64 5)∧w'.cell? ⟨GW,4,none⟩=some (.int .i64 0)∧w'.cell? ⟨GW,5,none⟩=some (.slice B0 0 k0))
         (first | exact hkX | go_keep)
         (first
          | (go_at_call 16;with_reducible refine (AV.out _).mono ?_;rintro e wT ⟨rfl,hb⟩;have hcur:=hcur.trans (hb.mono hcur.size);have hkX:=keepX _ hcur)
          | (go_at_call 9;with_reducible refine (TW.out _).mono ?_;rintro e wT ⟨rfl,hb⟩;have hcur:=hcur.trans (hb.mono hcur.size);have hkX:=keepX _ hcur)
          | (go_at_call 17;with_reducible refine (PK.out _ (Recs.of_own (HR.out.below hcur))).mono ?_;rintro e wT ⟨rfl,hb⟩;have hcur:=hcur.trans (hb.mono hcur.size);have hkX:=keepX _ hcur))
        have B:=Lh (B.out.trans (hcur.mono B.out.size))
        clear hcur hkX keepX
        go_wp2
        go_ret
        exact ⟨rfl,B.out⟩
end Go.Proofs.YtifgcfepbenpjaaGreat
