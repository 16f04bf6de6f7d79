/- Texts of layers 1 to 12, joined. -/
import Derived.Test.YtifgcfepbenpjaaGreatNb47
set_option maxRecDepth 100000
set_option maxHeartbeats 12800000
set_option linter.unusedVariables false
namespace Go.Proofs.YtifgcfepbenpjaaGreat
open Go.RowKit
theorem two12_any (w:World):Calls Tryz.prog 9 #[] w fun e w'=>e=.returned (cfgV 2 9 4 2 2 8)∧Below w.heap.size w w':=by
 have y:=Blk.new w 36 [.int .i64 2,.int .i64 9,.int .i64 4,.int .i64 2,.int .i64 2,.int .i64 8]
 obtain ⟨z0,z1,z2,z3,z4,z5⟩:=y.cfg
 have hb:Below w.heap.size w (w.alloc (.cells #[.int .i64 2,.int .i64 9,.int .i64 4,.int .i64 2,.int .i64 2,.int .i64 8] 36)):=(Below.refl _ _).alloc (Nat.le_refl _) _
 have HB:=Lh hb
 clear y hb
 go_enter Tryz.func9,Tryz.ntmps9
 go_wp2
 refine bodyPost_ret (v:=cfgV 2 9 4 2 2 8) ?_ rfl ⟨rfl,HB.out⟩
 simp [results,Tryz.f9,go_sem,z0,z1,z2,z3,z4,z5]
def noteR (p e:Int):Rc:=⟨p,1,e,0,2,0,false,false⟩
theorem noteR_may {p e:Int} (hp:0≤p∧p < 3) (he:1≤e):mayR (noteR p e):=by
 have h1:(0:Int)≤0∧(0:Int)≤1∧(1:Int)≤1∧(1:Int)≤2∧(2:Int)≤3:=by decide
 exact ⟨⟨hp.1,hp.2,h1.2.2.1,he,h1.1,h1.2.1,h1.1,h1.2.1⟩,⟨h1.2.2.2.1,h1.2.2.2.2⟩,.inr rfl,.inl rfl⟩
theorem note12_any (p e:Int) (w:World) (hp:0≤p∧p < 3) (he:1≤e∧e < 4294967296) :
  Calls Tryz.prog 11 #[.int .i64 p,.int .u32 e] w fun z w'=>∃ A c,z=.returned (.slice A 14 c)∧w'.ownsRow w.heap.size 5 1 (.slice A 14 c) 14 (ints .u8 (recT (noteR p e)))∧Below w.heap.size w w':=by
 have hm:=noteR_may hp he.1
 have NT:=Lh (show Calls Tryz.prog 38 #[recV (noteR p e)] w (fun z w'=>∃ A c,z=.returned (.tuple #[.slice A 14 c,.int .i64 0])∧w'.ownsRow w.heap.size 5 1 (.slice A 14 c) 14 (ints .u8 (recT (noteR p e)))∧Below w.heap.size w w') from by
  have h:=pnote11_any (noteR p e) w ⟨(by decide:(0:Int)≤1∧(1:Int) < 4294967296),⟨by have:=he.1;show 0≤e;omega,he.2⟩,(by decide:(0:Int)≤2∧(2:Int) < 256)⟩
  unfold RowOut at h
  rw [show ntB (noteR p e)=recT (noteR p e) from if_pos hm,show rcE (noteR p e)=0 from if_pos hm,recT_length] at h
  exact h)
 obtain ⟨T,hT⟩:∃ y,y=recT (noteR p e):=⟨_,rfl⟩
 rw [← hT] at NT ⊢
 clear hT hm hp he
 go_enter Tryz.func11,Tryz.ntmps11
 go_wp2_with fail
 refine NT.out.mono ?_
 rintro z w1 ⟨A,c,rfl,hown,hb⟩
 have O:=Lh hown
 have BB:=Lh hb
 clear hown hb NT
 go_wp2
 go_ret
 exact ⟨A,c,rfl,O.out,BB.out⟩
theorem small_wr {S:List Sec} {C:List Pnd} {x:Int} {b:Txt} (h:SmallD S C) (hw:wrE S C x b=0):SmallD S (C ++ [(x,b)]):=by
 have hb:b.length=32∧C.length < 64:=by
  unfold wrE at hw
  split at hw
  ·split at hw
   ·rename_i h1 h2
    split at hw
    ·cases hw
    ·exact ⟨h2,by omega⟩
   ·cases hw
  ·rename_i h1;exact absurd hw h1
 refine ⟨h.secs,by rw [List.length_append];simp;omega,h.long,fun p hp=>?_⟩
 rcases List.mem_append.1 hp with h1 | h1
 ·exact h.wide p h1
 ·rw [List.mem_singleton.1 h1];show b.length≤100;omega
def DoneD (w wr:World) (D:Option Addr) (d:Nat) (D':Option Addr) (d':Nat) (S:List Sec) (C:List Pnd) (A:Option Addr) (c:Nat) (A':Option Addr) (c':Nat) (S1:List Sec) (C1:List Pnd):Prop:=OwnDsk wr w.heap.size A S1.length c A' C1.length c' S1 C1∨(A=D∧c=d∧A'=D'∧c'=d'∧S1=S∧C1=C)
theorem DoneD.own {w wr:World} {D:Option Addr} {d:Nat} {D':Option Addr} {d':Nat} {S:List Sec} {C:List Pnd} {A:Option Addr} {c:Nat} {A':Option Addr} {c':Nat} {S1:List Sec} {C1:List Pnd} {base:Nat} (h:DoneD w wr D d D' d' S C A c A' c' S1 C1) (ho:OwnDsk wr base D S.length d D' C.length d' S C) (hb:base≤w.heap.size):OwnDsk wr base A S1.length c A' C1.length c' S1 C1:=by
 rcases h with h | ⟨rfl,rfl,rfl,rfl,rfl,rfl⟩
 ·exact h.lower hb
 ·exact ho
theorem done12_any (D:Option Addr) (d:Nat) (D':Option Addr) (d':Nat) (S:List Sec) (C:List Pnd) (A:Option Addr) (n c base:Nat) (L:List Ax) (l:List Ac) (many:Int) (S':List Sec) (C':List Pnd) (w:World) (hq:Dsk w D S.length d D' C.length d' S C) (hs:SmallD S C) (ha:OwnAcs w base A n c L) (hax:AxIs w L l) (hdn:dnA l many.toNat S C=some (S',C')) (hby:∀ a ∈ l,∀ z ∈ a.2.2,isByte z) (hn:n≤1000) :
  Calls Tryz.prog 15 #[diskV D S.length d D' C.length d',.slice A n c,.int .i64 many] w fun e w'=>∃ B k B' k',e=.returned (.tuple #[diskV B S'.length k B' C'.length k',.bool true])∧DoneD w w' D d D' d' S C B k B' k' S' C'∧SmallD S' C'∧Below w.heap.size w w':=by
 have x:=DBox.new hq
 have h1:Below w.heap.size w (w.alloc (.cells #[.slice D S.length d,.slice D' C.length d'] 25)):=(Below.refl _ _).alloc (Nat.le_refl _) _
 obtain ⟨w1,hw1⟩:∃ y,y=w.alloc (.cells #[.slice D S.length d,.slice D' C.length d'] 25):=⟨_,rfl⟩
 have hs1:w1.heap.size=w.heap.size + 1:=by rw [hw1];simp
 rw [← hw1] at x h1
 have r:=Blk.new w1 25 [.slice none 0 0,.slice none 0 0]
 have h2:Below w1.heap.size w1 (w1.alloc (.cells #[.slice none 0 0,.slice none 0 0] 25)):=(Below.refl _ _).alloc (Nat.le_refl _) _
 obtain ⟨w0,hw0⟩:∃ y,y=w1.alloc (.cells #[.slice none 0 0,.slice none 0 0] 25):=⟨_,rfl⟩
 rw [← hw0] at r h2
 rw [hs1] at r
 have X:=Lh (x.below h2).blk
 have RS:=Lh r
 have BB:=Lh (h1.trans (h2.mono h1.size))
 have HQ:=Lh hq
 have HS:=Lh hs
 have AC:=Lh ha
 have AX:=Lh hax
 have HBY:=Lh hby
 have LN:=Lh (show l.length=n from hax.1.trans ha.2)
 have HD:=Lh hdn
 clear x h1 h2 r hq hs ha hax hdn hby hs1
 go_enter Tryz.func15,Tryz.ntmps15
 go_wp2
 rw [← hw1,← hw0]
 clear hw1 hw0
 go_loopw [8] (fun i wr=>∃ (j:Nat) (A1:Option Addr) (c1:Nat) (A1':Option Addr) (c1':Nat) (S1:List Sec) (C1:List Pnd),j≤n∧i=.int .i64 j∧DoneD w wr D d D' d' S C A1 c1 A1' c1' S1 C1∧SmallD S1 C1∧Blk wr w.heap.size 25 [.slice A1 S1.length c1,.slice A1' C1.length c1']∧Blk wr (w.heap.size + 1) 25 [.slice none 0 0,.slice none 0 0]∧dnA (l.drop j) (many.toNat - j) S1 C1=some (S',C')∧Below w.heap.size w wr) (fun i _=>n - (intOf i).toNat)
 case atStart=>exact ⟨0,D,d,D',d',S,C,Nat.zero_le _,rfl,.inr ⟨rfl,rfl,rfl,rfl,rfl,rfl⟩,HS.out,X.out,RS.out,HD.out,BB.out⟩
 case round =>
  obtain ⟨j,A1,c1,A1',c1',S1,C1,hj,rfl,hd,hsm,hx,hr,hdn,hb0⟩:=hrel
  have DD:=Lh hd
  have SM:=Lh hsm
  have XB:=Lh hx
  have RB:=Lh hr
  have DN:=Lh hdn
  have BR:=Lh hb0
  clear hd hsm hx hr hdn hb0
  by_cases hgo:(j:Int) < many∧j < n
  ·obtain ⟨hjm,hjn⟩:=hgo
   have hjn':(j:Int) < (n:Int):=by omega
   obtain ⟨a,ha⟩:∃ y,y=l.getD j (0,0,[]):=⟨_,rfl⟩
   have hjl:j < l.length:=by rw [LN.out];exact hjn
   have hmem:a ∈ l:=by
    rw [ha,gtD,geE hjl]
    exact List.getElem_mem hjl
   have hdrop:l.drop j=a :: l.drop (j + 1):=by
    rw [List.drop_eq_getElem_cons hjl,ha,gtD,geE hjl]
    rfl
   have hdn:=DN.out
   rw [hdrop,show many.toNat - j=(many.toNat - (j + 1)) + 1 by omega] at hdn
   have HM:=Lh (HBY.out a hmem)
   obtain ⟨b1,rfl,hlt1,k1,i1,s1⟩:=(AC.out.below BR.out).row hjn
   obtain ⟨e1,f1,a1⟩:=(AX.out.below BR.out).2 j (by rw [AC.out.2];exact hjn)
   rw [e1,← ha] at k1
   rw [f1,← ha] at i1
   rw [← ha] at a1
   obtain ⟨y1,hy1⟩:∃ y,y=(L.getD j zAx).2.2:=⟨_,rfl⟩
   rw [← hy1] at s1 a1
   obtain ⟨Ab,nb,cb⟩:=y1
   obtain ⟨ak,ax,T⟩:=a
   dsimp only at s1 a1 k1 i1 hdn HM
   have ARG:=Lh a1
   have DQ:=Lh (show Dsk wr A1 S1.length c1 A1' C1.length c1' S1 C1 from by
    rcases DD.out with h | ⟨rfl,rfl,rfl,rfl,rfl,rfl⟩
    ·exact Dsk.of_own h
    ·exact HQ.out.below BR.out)
   have FL:=Lh (dsk_does.flush A1 S1.length c1 A1' C1.length c1' S1 C1 wr DQ.out SM.out)
   have hK:w.heap.size + 1 < wr.heap.size:=RB.out.lt
   obtain ⟨x0,x1⟩:wr.cell? ⟨w.heap.size,0,none⟩=some (.slice A1 S1.length c1)∧wr.cell? ⟨w.heap.size,1,none⟩=some (.slice A1' C1.length c1'):=⟨XB.out.cell 0,XB.out.cell 1⟩
   have hak:ak=1∨ak=2:=by
    by_cases h1:ak=1
    ·exact .inl h1
    ·by_cases h2:ak=2
     ·exact .inr h2
     ·exfalso
      simp only [dnA,if_neg h1,if_neg h2] at hdn
      cases hdn
   have ROW:=Lh (And.intro hlt1 (And.intro k1 (And.intro i1 s1)))
   clear e1 f1 hy1 ha hmem hdrop hjl a1 hlt1 k1 i1 s1
   go_wp2_with fail
   refine FL.out.mono ?_
   rintro e w2 ⟨A2,c2,A2',c2',rfl,hown,hb⟩
   have B2:=Lh (BR.out.trans (hb.mono BR.out.size))
   have DQ:=Lh (DQ.out.below hb)
   have ARG:=Lh (ARG.out.below hb)
   have XB:=Lh (XB.out.below hb XB.out.lt)
   have RB:=Lh (RB.out.below hb RB.out.lt)
   have hK2:w.heap.size + 1 < w2.heap.size:=RB.out.lt
   have hlt2:b1 < w2.heap.size:=Nat.lt_of_lt_of_le ROW.out.1 hb.size
   have ROW:=Lh (show w2.cell? ⟨b1,j * 29,none⟩=some (.int .u8 ak)∧w2.cell? ⟨b1,j * 29 + 1,none⟩=some (.int .i64 ax)∧w2.cell? ⟨b1,j * 29 + 2,none⟩=some (.slice Ab nb cb) from ⟨(hb.cell (p:=⟨b1,j * 29,none⟩) ROW.out.1).trans ROW.out.2.1,(hb.cell (p:=⟨b1,j * 29 + 1,none⟩) ROW.out.1).trans ROW.out.2.2.1,(hb.cell (p:=⟨b1,j * 29 + 2,none⟩) ROW.out.1).trans ROW.out.2.2.2⟩)
   have HO:=Lh (hown.lower (base':=w.heap.size) (Nat.le_trans (by omega) BR.out.size))
   clear hown hb x0 x1 hK FL
   have keepX:∀ wx,Below w2.heap.size w2 wx→wx.cell? ⟨w.heap.size,0,none⟩=some (.slice A1 S1.length c1)∧wx.cell? ⟨w.heap.size,1,none⟩=some (.slice A1' C1.length c1')∧wx.cell? ⟨b1,j * 29,none⟩=some (.int .u8 ak)∧wx.cell? ⟨b1,j * 29 + 1,none⟩=some (.int .i64 ax)∧wx.cell? ⟨b1,j * 29 + 2,none⟩=some (.slice Ab nb cb):=fun wx hx =>
    ⟨(XB.out.below hx XB.out.lt).cell 0,(XB.out.below hx XB.out.lt).cell 1,(hx.cell (p:=⟨b1,j * 29,none⟩) hlt2).trans ROW.out.1,(hx.cell (p:=⟨b1,j * 29 + 1,none⟩) hlt2).trans ROW.out.2.1,(hx.cell (p:=⟨b1,j * 29 + 2,none⟩) hlt2).trans ROW.out.2.2⟩
   have hcur:Below w2.heap.size w2 (w2.alloc (.cells #[.slice A2 (flS S1 C1).length c2,.slice A2' 0 c2'] 25)):=(Below.refl _ _).alloc (Nat.le_refl _) _
   obtain ⟨x0,x1,k0,k1,k2⟩:=keepX _ hcur
   have hZ0:=Blk.new w2 25 [.slice A2 (flS S1 C1).length c2,.slice A2' 0 c2']
   go_upto_region 5 with fail
   obtain ⟨w5,hw5⟩:∃ y,y=w2.alloc (.cells #[.slice A2 (flS S1 C1).length c2,.slice A2' 0 c2'] 25):=⟨_,rfl⟩
   rw [← hw5] at hcur x0 x1 k0 k1 k2 hZ0 ⊢
   have HO:=Lh (HO.out.below hcur)
   have XB5:=Lh (XB.out.below hcur XB.out.lt)
   have RB5:=Lh (RB.out.below hcur RB.out.lt)
   have CUR:=Lh hcur
   have Z0:=Lh hZ0
   have x2:=hZ0.cell 0
   have x3:=hZ0.cell 1
   have f0:=XB5.out.free 0
   have f1:=XB5.out.free 1
   simp only [gcZ,gcS] at x2 x3
   clear hw5 hcur hZ0
   rcases hak with rfl | rfl
   ·have hm1:wrE S1 C1 ax T=0∧dnA (l.drop (j + 1)) (many.toNat - (j + 1)) S1 (C1 ++ [(ax,T)])=some (S',C'):=by
     rw [dnA,if_pos rfl] at hdn
     dsimp only at hdn
     split at hdn
     ·rename_i h;exact ⟨h,hdn⟩
     ·cases hdn
    have hsm:=small_wr SM.out hm1.1
    have hT:T.length≤100:=hsm.wide (ax,T) (List.mem_append_right _ (List.mem_cons_self ..))
    have WR:=Lh (fun wx (hx:Below w2.heap.size w2 wx)=>(dsk_does.write A1 S1.length c1 A1' C1.length c1' S1 C1 ax Ab nb cb T wx (DQ.out.below hx) SM.out (ARG.out.below hx) HM.out hT).mono fun e w' ho=>DiskOut.as ho (S':=S1) (C':=C1 ++ [(ax,T)]) (E':=0) (n:=S1.length) (n':=(C1 ++ [(ax,T)]).length) (if_pos hm1.1) (if_pos hm1.1) hm1.1 rfl rfl)
    obtain ⟨C2,hC2⟩:∃ y,y=C1 ++ [(ax,T)]:=⟨_,rfl⟩
    rw [← hC2] at WR hm1 hsm
    have HM1:=Lh (And.intro hsm hm1.2)
    clear hdn hm1 hsm hT hC2
    go_upto_region 6 with fail
    clear x0 x1 x2 x3 k0 k1 k2 f0 f1
    have hcur:Below w2.heap.size w2 w5.drew:=below_drewN CUR.out 1
    have hZ:=Z0.out.below (below_drewN (Below.refl _ _) 1) Z0.out.lt
    have hLL:=Nat.le_refl w2.heap.size
    have hkX:=keepX _ hcur
    go_region_held3 (fun w'=>w'.cell? ⟨w.heap.size,0,none⟩=some (.slice A1 S1.length c1)∧w'.cell? ⟨w.heap.size,1,none⟩=some (.slice A1' C1.length c1')∧w'.cell? ⟨b1,j * 29,none⟩=some (.int .u8 1)∧w'.cell? ⟨b1,j * 29 + 1,none⟩=some (.int .i64 ax)∧w'.cell? ⟨b1,j * 29 + 2,none⟩=some (.slice Ab nb cb))
     (first | exact hkX | exact keepX _ ((hcur.setCell (p:=⟨_,0,none⟩) hLL _).setCell (p:=⟨_,1,none⟩) hLL _) | go_keep)
     (first | (go_at_call 45;with_reducible refine (WR.out _ hcur).mono ?_;rintro e w3 ⟨A9,c9,A9',c9',rfl,hown9,hb9⟩;have hM:=hcur.size;have hcur:=hcur.trans (hb9.mono hcur.size);have hkX:=keepX _ hcur;have hZ:=hZ.below hb9 hZ.lt;have z0:=hZ.cell 0;have z1:=hZ.cell 1;have g0:=hZ.free 0;have g1:=hZ.free 1;simp only [gcZ,gcS] at z0 z1))
    all_goals (
     have O6:=Lh ((hown9.lower (base':=w.heap.size) (Nat.le_trans (by omega) hM)).two hZ (.slice A9 S1.length c9) (.slice A9' C2.length c9'))
     have Z6:=Lh (hZ.two (.slice A9 S1.length c9) (.slice A9' C2.length c9'))
     have B6:=(hcur.setCell (p:=⟨w2.heap.size,0,none⟩) hLL (.slice A9 S1.length c9)).setCell (p:=⟨w2.heap.size,1,none⟩) hLL (.slice A9' C2.length c9')
     clear hkX hM hcur hZ hown9 hb9 z0 z1 g0 g1
     obtain ⟨w6,hw6⟩:∃ y,y=(w3.setCell ⟨w2.heap.size,0,none⟩ (.slice A9 S1.length c9)).setCell ⟨w2.heap.size,1,none⟩ (.slice A9' C2.length c9'):=⟨_,rfl⟩
     rw [← hw6] at O6 Z6 B6 ⊢
     have XB6:=Lh (XB.out.below B6 XB.out.lt)
     have RB6:=Lh (RB.out.below B6 RB.out.lt)
     have BF:=Lh (B2.out.trans (B6.mono B2.out.size))
     have x2:=Z6.out.cell 0
     have x3:=Z6.out.cell 1
     have f0:=XB6.out.free 0
     have f1:=XB6.out.free 1
     obtain ⟨x0,x1,k0,k1,k2⟩:=keepX _ B6
     simp only [gcZ,gcS] at x2 x3
     clear hw6 B6 keepX
     go_wp2
     go_roundw
     case rel =>
      refine ⟨j + 1,A9,c9,A9',c9',S1,C2,by omega,by go_num,.inl (O6.out.two XB6.out _ _),HM1.out.1,XB6.out.two _ _,(RB6.out.away (by omega) 0 _).away (by omega) 1 _,HM1.out.2,below_two BF.out (by omega) _ _⟩
     all_goals (try case measure=>simp [intOf];omega))
   ·have hm2:mayD S1 C1=true∧dnA (l.drop (j + 1)) (many.toNat - (j + 1)) (flS S1 C1) []=some (S',C'):=by
     rw [dnA,if_neg (show ¬ (2:Int)=1 by decide),if_pos rfl] at hdn
     split at hdn
     ·rename_i h;exact ⟨h,hdn⟩
     ·cases hdn
    have hchk:chkD S1 C1=0:=if_pos hm2.1
    have HM2:=Lh hm2
    rw [hchk]
    clear hdn hm2 hchk
    go_wp2
    go_roundw
    case rel =>
     refine ⟨j + 1,A2,c2,A2',c2',flS S1 C1,[],by omega,by go_num,.inl (HO.out.two XB5.out _ _),(cr_small SM.out _),XB5.out.two _ _,(RB5.out.away (by omega) 0 _).away (by omega) 1 _,HM2.out.2,below_two (B2.out.trans (CUR.out.mono B2.out.size)) (by omega) _ _⟩
    all_goals (try case measure=>simp [intOf];omega)
  ·have hend:S1=S'∧C1=C':=by
    have hdn:=DN.out
    by_cases h:(j:Int) < many
    ·have hjn:j=n:=by omega
     rw [hjn,List.drop_eq_nil_of_le (by rw [LN.out];omega),dnA_nil] at hdn
     injection hdn with hdn
     injection hdn with h1 h2
     exact ⟨h1,h2⟩
    ·rw [show many.toNat - j=0 by omega] at hdn
     have:dnA (l.drop j) 0 S1 C1=some (S1,C1):=by cases l.drop j <;> rfl
     rw [this] at hdn
     injection hdn with hdn
     injection hdn with h1 h2
     exact ⟨h1,h2⟩
   obtain ⟨rfl,rfl⟩:=hend
   obtain ⟨x0,x1⟩:wr.cell? ⟨w.heap.size,0,none⟩=some (.slice A1 S1.length c1)∧wr.cell? ⟨w.heap.size,1,none⟩=some (.slice A1' C1.length c1'):=⟨XB.out.cell 0,XB.out.cell 1⟩
   have r0:=RB.out.cell 0
   have r1:=RB.out.cell 1
   have f0:=RB.out.free 0
   have f1:=RB.out.free 1
   simp only [gcZ,gcS] at r0 r1
   have FIN:=Lh (show DoneD w ((wr.setCell ⟨w.heap.size + 1,0,none⟩ (.slice A1 S1.length c1)).setCell ⟨w.heap.size + 1,1,none⟩ (.slice A1' C1.length c1')) D d D' d' S C A1 c1 A1' c1' S1 C1 from by
    rcases DD.out with h | h
    ·exact .inl (h.two RB.out _ _)
    ·exact .inr h)
   have RF:=Lh (RB.out.two (.slice A1 S1.length c1) (.slice A1' C1.length c1'))
   have hlt:((j:Int) < many∧(j:Int)=n)∨¬ (j:Int) < many:=by omega
   have hnn:¬ (n:Int) < (n:Int):=by omega
   rcases hlt with ⟨h1,h2⟩ | h1
   ·have h3:¬ (j:Int) < (n:Int):=by omega
    clear h2 hgo
    go_wp2
    have q0:=RF.out.cell 0
    have q1:=RF.out.cell 1
    simp only [gcZ,gcS] at q0 q1
    refine bodyPost_ret (v:=.tuple #[diskV A1 S1.length c1 A1' C1.length c1',.bool true]) ?_ rfl ⟨A1,c1,A1',c1',rfl,FIN.out,SM.out,below_two BR.out (by omega) _ _⟩
    clear x0 x1 r0 r1 f0 f1
    simp [results,Tryz.f15,go_sem,q0,q1]
   ·clear hgo
    go_wp2
    have q0:=RF.out.cell 0
    have q1:=RF.out.cell 1
    simp only [gcZ,gcS] at q0 q1
    refine bodyPost_ret (v:=.tuple #[diskV A1 S1.length c1 A1' C1.length c1',.bool true]) ?_ rfl ⟨A1,c1,A1',c1',rfl,FIN.out,SM.out,below_two BR.out (by omega) _ _⟩
    clear x0 x1 r0 r1 f0 f1
    simp [results,Tryz.f15,go_sem,q0,q1]
end Go.Proofs.YtifgcfepbenpjaaGreat
namespace Go.Proofs.YtifgcfepbenpjaaGreat
theorem dnA_more:∀ {l:List Ac} {many:Nat} {S:List Sec} {C:List Pnd},l.length≤many→dnA l many S C=dnA l l.length S C
 | [],many,S,C,_=>by rw [dnA_nil];rfl
 | a :: l,0,S,C,h=>absurd h (by simp)
 | a :: l,k + 1,S,C,h=>by
  have ih:=fun (S:List Sec) (C:List Pnd)=>dnA_more (l:=l) (many:=k) (S:=S) (C:=C) (by simpa using h)
  simp only [dnA,List.length_cons,ih]
section
variable {P T A M W Q:Int} {S:List Sec} {s:Sup} {t t':List Rc} {n B V:Int} {m:Mt} {b:Txt}
theorem Runs12.count (R:Runs12 P T A M W Q S s t n B V):0≤n∧n≤A:=by
 obtain ⟨_,_,_,h⟩:=tells_out R.tells
 have hA:(3:Int)≤A:=by have:=R.may.1;unfold mayC at this;omega
 rw [jN_length] at h
 have:=jM_le (jf S [] A s.2.1 s.2.2) A.toNat
 omega
theorem Runs12.seen (R:Runs12 P T A M W Q S s t n B V):moE P T A M W Q S []=0∧moV P T A M W Q S []=⟨s,n,0,t⟩:=by
 obtain ⟨h0,h1,h2,h3⟩:=R.tells
 have e:(moV P T A M W Q S []).u=0:=(tells_is h0 rfl).2.2.2.2
 refine ⟨h0,?_⟩
 cases hm:moV P T A M W Q S [] with
 | mk s' n' u' t'' =>
  rw [hm] at h1 h2 h3 e
  dsimp only at h1 h2 h3 e
  rw [h1,h2,h3,e]
theorem Runs12.known (R:Runs12 P T A M W Q S s t n B V) {u:Int} (hu:0≤u∧u≤65535):mayM P T A M W Q ⟨s,n,u,t⟩:=⟨R.may.1,R.area,R.count,hu,R.tab⟩
theorem sp_one (P T A M W Q:Int) (S:List Sec) (C:List Pnd) (s:Sup):(spL P T A M W Q S C s).length≤1:=by
 by_cases h:spE P T A M W Q S C s=0
 ·rw [plP_is h,plP_len]
  exact Nat.le_refl _
 ·unfold spL
  rw [if_neg h]
  exact Nat.zero_le _
theorem bo_yes (h1:mayT P T A M W Q S []) (h2:mayM P T A M W Q m):boE P T A M W Q S [] m=0:=if_pos ⟨h1,h2⟩
theorem Runs12.boots_ (R:Runs12 P T A M W Q S s t n B V) (hV:V < 4294967295) (hs:isS (s.1 + 1,s.2.1,s.2.2)) :
  bootE P T A M W Q S [] ⟨s,n,0,t⟩=0∧bootM P T A M W Q S [] ⟨s,n,0,t⟩=⟨(s.1 + 1,s.2.1,s.2.2),n,0,t⟩∧bootA P T A M W Q S [] ⟨s,n,0,t⟩=actsA (spL P T A M W Q S [] (s.1 + 1,s.2.1,s.2.2)):=by
 have h0:spE P T A M W Q S [] (s.1 + 1,s.2.1,s.2.2)=0:=(R.boots hV hs 0).1
 have hE:bootE P T A M W Q S [] ⟨s,n,0,t⟩=0:=by
  unfold bootE
  rw [if_pos (bo_yes R.may (R.known ⟨Int.le_refl 0,by decide⟩)),if_neg (fun h=>by have:=hs.1.2;dsimp only at h this;omega)]
  exact h0
 exact ⟨hE,by unfold bootM;rw [if_pos hE];rfl,by unfold bootA;rw [if_pos hE];rfl⟩
end
structure Inv12 (P T A M W Q:Int) (S:List Sec) (m:Mt) (i:Int):Prop where
 R:Runs12 P T A M W Q S m.s m.t m.n (65536 * m.s.1 + m.u) (1 + 3 * i)
 boot:1≤m.s.1∧m.s.1≤1 + 2 * i
 turn:0≤m.u∧m.u≤i
 all:allR m.t
section
variable {P T A M W Q:Int} {S:List Sec} {m:Mt} {i:Int} {b:Txt} {t':List Rc}
theorem Inv12.may (I:Inv12 P T A M W Q S m i) (hi:i≤1000):mayM P T A M W Q m:=I.R.known ⟨I.turn.1,by have:=I.turn.2;omega⟩
theorem Inv12.sup (I:Inv12 P T A M W Q S m i) (hi:i≤1000):isS m.s:=by
 have:=I.boot
 have:=I.turn
 have:=I.R.gen
 exact ⟨⟨by omega,by omega⟩,⟨by omega,by omega⟩⟩
theorem Inv12.anew (I:Inv12 P T A M W Q S m i) (hi:i≤1000):isS (anewS m):=by
 have:=I.boot
 have:=I.turn
 unfold anewS nextM
 exact ⟨⟨by dsimp only;omega,by dsimp only;omega⟩,⟨by dsimp only;omega,by dsimp only;omega⟩⟩
theorem Inv12.bo (I:Inv12 P T A M W Q S m i) (hi:i≤1000):boE P T A M W Q S [] m=0:=bo_yes I.R.may (I.may hi)
theorem Inv12.orderly (I:Inv12 P T A M W Q S m i) (hi:i≤1000):orB P T A M W Q S [] m=true:=by
 unfold orB
 rw [if_pos (I.bo hi)]
 exact fineB_iff.2 (I.R.fine (Int.le_refl _))
theorem Inv12.bad (I:Inv12 P T A M W Q S m i) (hi:i≤1000) (hp:putR m.t b=none):cmE P T A M W Q S [] m b=110:=by
 unfold cmE
 rw [if_pos (I.bo hi),hp]
 rfl
theorem Inv12.com (I:Inv12 P T A M W Q S m i) (hi:i≤1000) (hp:putR m.t b=some t'):cmE P T A M W Q S [] m b=0∧cmO P T A M W Q S [] m b=cmM A m t'∧cmL P T A M W Q S [] m b=cmA P T A M W Q S [] m b t':=by
 have hE:cmE P T A M W Q S [] m b=0:=by
  unfold cmE
  rw [if_pos (I.bo hi),hp,show ansE (some t')=0 from rfl,if_pos (Eq.refl (0:Int))]
  unfold cmE0
  have hu:=I.turn
  by_cases hn:m.n < A
  ·rw [if_pos hn]
  ·rw [if_neg hn,if_neg (by omega)]
   exact (I.R.sp (by omega) (s':=anewS m) (by have:=I.R.area;unfold arS at this ⊢;unfold anewS;dsimp only;omega)).1
 exact ⟨hE,by unfold cmO;rw [if_pos hE,hp];rfl,by unfold cmL;rw [if_pos hE,hp];rfl⟩
theorem cmM_boot:(cmM A m t').s.1=m.s.1∧(cmM A m t').t=t'∧(cmM A m t').u≤m.u + 1∧m.u≤(cmM A m t').u:=by
 unfold cmM
 split
 ·exact ⟨rfl,rfl,by dsimp only;omega,Int.le_refl _⟩
 ·exact ⟨rfl,rfl,Int.le_refl _,by dsimp only;omega⟩
theorem Inv12.acts (I:Inv12 P T A M W Q S m i) (hi:i≤1000) (hp:putR m.t b=some t') (hby:∀ z ∈ b,isByte z) (many:Nat) :
  ∃ S' C',dnA (cmA P T A M W Q S [] m b t') many S []=some (S',C')∧mayD S' C'=true ∧
   (∀ F,Runs12 P T A M W Q (crS S' C' F) m.s m.t m.n (nextM m) (2 + 3 * i)∨Runs12 P T A M W Q (crS S' C' F) (cmM A m t').s t' (cmM A m t').n (nextM m) (2 + 3 * i)) ∧
   ((cmA P T A M W Q S [] m b t').length≤many→C'=[]∧Inv12 P T A M W Q S' (cmM A m t') (i + 1)):=by
 have hu:=I.turn
 have hall:=put_all hp I.all hby
 obtain ⟨c1,c2,c3,c4⟩:=cmM_boot (A:=A) (m:=m) (t':=t')
 obtain ⟨S',C',h1,h2,h3,h4⟩:=I.R.commit (I.may hi) (Int.le_refl _) (I.sup hi).2 (I.anew hi) hp hall hby (by omega) many
 refine ⟨S',C',h1,h2,fun F=>?_,fun h=>?_⟩
 ·have:=h3 F
  rw [show (1:Int) + 3 * i + 1=2 + 3 * i by omega] at this
  exact this
 ·obtain ⟨h5,h6⟩:=h4 h
  refine ⟨h5,⟨?_,by have:=I.boot;omega,by omega,by rw [c2];exact hall⟩⟩
  rw [c2]
  exact h6.mono (Int.le_refl _) (by omega)
theorem inv_boot {S:List Sec} {s:Sup} {t:List Rc} {n B V:Int} (R:Runs12 P T A M W Q S s t n B V) (hi:0≤i∧i≤1000) (hb:0≤s.1∧s.1≤2 * i) (hB:B≤65536 * (s.1 + 1)) (hV:V≤3 * i) (ha:allR t) :
  isS (s.1 + 1,s.2.1,s.2.2)∧∃ S',(∀ many,(actsA (spL P T A M W Q S [] (s.1 + 1,s.2.1,s.2.2))).length≤many→dnA (actsA (spL P T A M W Q S [] (s.1 + 1,s.2.1,s.2.2))) many S []=some (S',[]))∧Inv12 P T A M W Q S' ⟨(s.1 + 1,s.2.1,s.2.2),n,0,t⟩ i:=by
 have hs:isS (s.1 + 1,s.2.1,s.2.2):=by
  have:=R.gen
  exact ⟨⟨by dsimp only;omega,by dsimp only;omega⟩,⟨by dsimp only;omega,by dsimp only;omega⟩⟩
 refine ⟨hs,?_⟩
 obtain ⟨_,S',C',h1,h2,h3,h4⟩:=R.boots (by omega) hs (actsA (spL P T A M W Q S [] (s.1 + 1,s.2.1,s.2.2))).length
 obtain ⟨rfl,h6⟩:=h4 (Nat.le_refl _)
 refine ⟨S',fun many hm=>?_,⟨h6.mono (by show B≤65536 * (s.1 + 1) + 0;omega) (by omega),by dsimp only;omega,by dsimp only;omega,ha⟩⟩
 obtain ⟨_,S2,C2,g1,_,_,_⟩:=R.boots (by omega) hs many
 rw [dnA_more hm]
 exact h1
end
theorem blank_may {P T A M W Q:Int} (h:mayC P T A M W Q):newE (fE P T A)=0∧newS (fE P T A)=List.replicate (fE P T A).toNat (false,noughts)∧mayT P T A M W Q (newS (fE P T A)) []∧SmallD (newS (fE P T A)) []∧(newS (fE P T A)).length≤300:=by
 have hf:=fE_le h
 have hE:newE (fE P T A)=0:=if_pos ⟨by omega,by omega⟩
 have hS:newS (fE P T A)=List.replicate (fE P T A).toNat (false,noughts):=by unfold newS;rw [if_pos hE]
 have hl:noughts.length=32:=by decide
 refine ⟨hE,hS,⟨h,?_,?_⟩,?_,?_⟩
 ·rw [hS]
  refine (mayD_iff _ _).2 ⟨⟨?_,?_,by decide⟩,fun s hs=>?_,fun p hp=>absurd hp List.not_mem_nil⟩
  ·rw [List.length_replicate];omega
  ·rw [List.length_replicate];omega
  ·rw [List.eq_of_mem_replicate hs]
   exact ⟨hl,fun e=>by cases e⟩
 ·rw [hS,List.length_replicate]
  omega
 ·rw [hS]
  refine ⟨by rw [List.length_replicate];omega,by decide,fun s hs=>?_,fun p hp=>absurd hp List.not_mem_nil⟩
  rw [List.eq_of_mem_replicate hs]
  rw [hl]
  decide
 ·rw [hS,List.length_replicate]
  omega
theorem inv_blank {P T A M W Q:Int} (h:mayC P T A M W Q) :
  moE P T A M W Q (newS (fE P T A)) []=0∧moV P T A M W Q (newS (fE P T A)) []=⟨(0,0,0),0,0,[]⟩ ∧
  bootE P T A M W Q (newS (fE P T A)) [] ⟨(0,0,0),0,0,[]⟩=0∧bootM P T A M W Q (newS (fE P T A)) [] ⟨(0,0,0),0,0,[]⟩=⟨(1,0,0),0,0,[]⟩ ∧
  ∃ S',(∀ many,(bootA P T A M W Q (newS (fE P T A)) [] ⟨(0,0,0),0,0,[]⟩).length≤many→dnA (bootA P T A M W Q (newS (fE P T A)) [] ⟨(0,0,0),0,0,[]⟩) many (newS (fE P T A)) []=some (S',[]))∧Inv12 P T A M W Q S' ⟨(1,0,0),0,0,[]⟩ 0:=by
 obtain ⟨_,hS,hm,_,_⟩:=blank_may h
 have R:Runs12 P T A M W Q (newS (fE P T A)) (0,0,0) [] 0 0 0:=by
  rw [hS] at hm ⊢
  exact Runs12.blank hm
 obtain ⟨h1,h2⟩:=R.seen
 obtain ⟨hi,S',h3,h4⟩:=inv_boot R (i:=0) ⟨by decide,by decide⟩ ⟨by decide,by decide⟩ (by decide) (by decide) (fun r hr=>absurd hr List.not_mem_nil)
 obtain ⟨h5,h6,h7⟩:=R.boots_ (by decide) hi
 refine ⟨h1,h2,h5,h6,S',?_,h4⟩
 rw [h7]
 exact h3
end Go.Proofs.YtifgcfepbenpjaaGreat
namespace Go.Proofs.YtifgcfepbenpjaaGreat
open Go.RowKit
def alM (k:Nat):Mt:=if k=0 then ⟨(1,0,0),0,0,[]⟩ else if k≤4 then ⟨(1,0,0),(k:Int),0,[noteR 1 (k:Int)]⟩ else ⟨(1,1,65537),1,1,[noteR 1 5]⟩
theorem noteR_is {p e:Int} (hp:0≤p∧p < 3) (he:1≤e∧e < 4294967296):isR (noteR p e):=⟨(by decide:(0:Int)≤1∧(1:Int) < 4294967296),⟨by have:=he.1;show 0≤e;omega,he.2⟩,(by decide:(0:Int)≤2∧(2:Int) < 256)⟩
theorem al_put {k:Nat} (hk:k < 5):putR (alM k).t (recT (noteR 1 ((k + 1:Nat):Int)))=some (alM (k + 1)).t∧cmM 4 (alM k) (alM (k + 1)).t=alM (k + 1):=by
 have h1:mayTab (alM k).t:=by
  rcases (by omega:k=0∨k=1∨k=2∨k=3∨k=4) with rfl | rfl | rfl | rfl | rfl
  ·exact (mayTab_iff _).2 ⟨fun r hr=>absurd hr (List.not_mem_nil),List.Pairwise.nil⟩
  all_goals exact (mayTab_iff _).2 ⟨fun r hr=>by rw [List.mem_singleton.1 hr];exact noteR_may (by decide) (by decide),List.pairwise_singleton _ _⟩
 refine ⟨?_,?_⟩
 ·rw [put_rec h1 (noteR_is (by decide) ⟨by omega,by omega⟩) (noteR_may (by decide) (by omega))]
  rcases (by omega:k=0∨k=1∨k=2∨k=3∨k=4) with rfl | rfl | rfl | rfl | rfl <;> rfl
 ·rcases (by omega:k=0∨k=1∨k=2∨k=3∨k=4) with rfl | rfl | rfl | rfl | rfl <;> rfl
theorem al_two {P T A M W Q:Int} {S:List Sec} {m:Mt} {b:Txt} {t':List Rc} (h:m.n < A):(cmA P T A M W Q S [] m b t').length=2:=by
 unfold cmA
 rw [if_pos h]
 rfl
theorem cmA_many {P T A M W Q:Int} {S:List Sec} {m:Mt} {b:Txt} {t':List Rc} (ht:mayTab t'):(cmA P T A M W Q S [] m b t').length≤10:=by
 unfold cmA
 split
 ·exact (by decide:2≤10)
 ·rw [List.length_append,actsA_length,actsA_length,rowsP,writesP_len]
  have:=three_of12 ht
  have:=sp_one P T A M W Q S [] (anewS m)
  omega
theorem al_step {S:List Sec} {k:Nat} (hk:k < 5) (I:Inv12 2 9 4 2 2 8 S (alM k) (k:Int)) :
  cmE 2 9 4 2 2 8 S [] (alM k) (recT (noteR 1 ((k:Int) + 1)))=0∧cmO 2 9 4 2 2 8 S [] (alM k) (recT (noteR 1 ((k:Int) + 1)))=alM (k + 1)∧((k:Int) < 4→(cmL 2 9 4 2 2 8 S [] (alM k) (recT (noteR 1 ((k:Int) + 1)))).length=2)∧(cmL 2 9 4 2 2 8 S [] (alM k) (recT (noteR 1 ((k:Int) + 1)))).length≤10 ∧
  ∃ S',dnA (cmL 2 9 4 2 2 8 S [] (alM k) (recT (noteR 1 ((k:Int) + 1)))) (cmL 2 9 4 2 2 8 S [] (alM k) (recT (noteR 1 ((k:Int) + 1)))).length S []=some (S',[])∧Inv12 2 9 4 2 2 8 S' (alM (k + 1)) (((k + 1:Nat)):Int):=by
 obtain ⟨hp,hm⟩:=al_put hk
 rw [show (((k + 1:Nat)):Int)=(k:Int) + 1 by omega] at hp ⊢
 obtain ⟨c1,c2,c3⟩:=I.com (by omega) hp
 rw [c1,c2,c3,hm]
 obtain ⟨S',C',h1,_,_,h4⟩:=I.acts (by omega) hp (recT_byte _) (cmA 2 9 4 2 2 8 S [] (alM k) (recT (noteR 1 ((k:Int) + 1))) (alM (k + 1)).t).length
 obtain ⟨rfl,h5⟩:=h4 (Nat.le_refl _)
 rw [hm] at h5
 refine ⟨rfl,rfl,fun h=>?_,cmA_many h5.R.tab,S',h1,h5⟩
 refine al_two ?_
 rcases (by omega:k=0∨k=1∨k=2∨k=3) with rfl | rfl | rfl | rfl <;> decide
def BootedOut (P T A M W Q:Int) (w:World) (e:Ending) (w':World):Prop:=∃ (S':List Sec) (D:Option Addr) (d:Nat) (D':Option Addr) (d':Nat) (B:Option Addr) (c:Nat),e=.returned (.tuple #[diskV D S'.length d D' 0 d',metV 1 0 0 0 0 B 0 c,.bool true])∧OwnDsk w' w.heap.size D S'.length d D' 0 d' S' []∧SmallD S' []∧OwnRecs w' w.heap.size B 0 c []∧Inv12 P T A M W Q S' ⟨(1,0,0),0,0,[]⟩ 0∧Below w.heap.size w w'
end Go.Proofs.YtifgcfepbenpjaaGreat
namespace Go.Proofs.YtifgcfepbenpjaaGreat
theorem nm_bad {S:List Sec} (I:Inv12 2 9 4 2 2 8 S ⟨(1,0,0),0,0,[]⟩ 0):cmE 2 9 4 2 2 8 S [] ⟨(1,0,0),0,0,[]⟩ [1]=110 :=
 I.bad (by decide) (by rfl)
theorem nm_boot {S:List Sec} (I:Inv12 2 9 4 2 2 8 S ⟨(1,0,0),0,0,[]⟩ 0):bootE 2 9 4 2 2 8 S [] ⟨(4294967295,0,0),0,0,[]⟩=9:=by
 have hm:=I.may (by decide)
 have h:boE 2 9 4 2 2 8 S [] ⟨(4294967295,0,0),0,0,[]⟩=0:=bo_yes I.R.may ⟨hm.1,hm.2.1,hm.2.2.1,hm.2.2.2.1,hm.2.2.2.2⟩
 unfold bootE
 rw [if_pos h]
 rfl
theorem nm_wrong:kmE 2 9 4 2 2 8 ⟨(1,0,0),5,0,[]⟩=8:=by
 unfold kmE
 rw [if_neg fun h=>absurd (h:mayM 2 9 4 2 2 8 ⟨(1,0,0),5,0,[]⟩).2.2.1.2 (by decide)]
theorem nm_put:putR [] (recT (noteR 0 1))=some [noteR 0 1]:=by
 rfl
theorem nm_full {S:List Sec} (I:Inv12 2 9 4 2 2 8 S ⟨(1,0,0),0,0,[]⟩ 0):cmE 2 9 4 2 2 8 S [] ⟨(1,0,0),4,65535,[]⟩ (recT (noteR 0 1))=9:=by
 have hm:=I.may (by decide)
 have h:boE 2 9 4 2 2 8 S [] ⟨(1,0,0),4,65535,[]⟩=0:=bo_yes I.R.may ⟨hm.1,hm.2.1,by decide,by decide,hm.2.2.2.2⟩
 unfold cmE
 rw [if_pos h,nm_put]
 rfl
theorem nm_none:moE 2 9 4 2 2 8 [] []=8:=by
 rfl
theorem nm_good {S:List Sec} (I:Inv12 2 9 4 2 2 8 S ⟨(1,0,0),0,0,[]⟩ 0) :
  cmE 2 9 4 2 2 8 S [] ⟨(1,0,0),0,0,[]⟩ (recT (noteR 0 1))=0∧cmO 2 9 4 2 2 8 S [] ⟨(1,0,0),0,0,[]⟩ (recT (noteR 0 1))=⟨(1,0,0),1,0,[noteR 0 1]⟩ ∧
  cmL 2 9 4 2 2 8 S [] ⟨(1,0,0),0,0,[]⟩ (recT (noteR 0 1))=[(1,2,jT 0 0 (recT (noteR 0 1))),(2,0,[])] ∧
  ∃ S',dnA [(1,2,jT 0 0 (recT (noteR 0 1))),(2,0,[])] 2 S []=some (S',[])∧Inv12 2 9 4 2 2 8 S' ⟨(1,0,0),1,0,[noteR 0 1]⟩ 1:=by
 obtain ⟨c1,c2,c3⟩:=I.com (by decide) nm_put
 obtain ⟨S',C',h1,_,_,h4⟩:=I.acts (by decide) nm_put (recT_byte _) 2
 obtain ⟨rfl,h5⟩:=h4 (Nat.le_refl 2)
 rw [c1,c2,c3]
 exact ⟨rfl,rfl,rfl,S',h1,h5⟩
theorem nm_old {S:List Sec} (I:Inv12 2 9 4 2 2 8 S ⟨(1,0,0),1,0,[noteR 0 1]⟩ 1):orB 2 9 4 2 2 8 S [] ⟨(1,0,0),0,0,[]⟩=false:=by
 obtain ⟨t0,t1,_,t3⟩:=I.R.tells
 obtain ⟨_,_,_,e4,_⟩:=tells_is t0 rfl
 rw [t3,t1,jN_length] at e4
 dsimp only at e4
 have hne:jf S [] 4 0 0 0≠[]:=jM_have _ (4:Int).toNat 0 (by omega)
 unfold orB
 split
 ·refine Bool.eq_false_iff.2 fun hf=>?_
  have hF:=fineB_iff.1 hf
  unfold jf at hne
  cases hx:optAt S [] (2 + 0 * 4 + ((0:Nat):Int)) with
  | none =>
   rw [hx] at hne
   exact hne rfl
  | some x =>
   rw [hx] at hne
   exact (hF 0 0 (by decide) (by decide) (fun h=>absurd h.2 (by decide)) x hx).1 (beg_note ⟨by decide,by decide⟩ hne)
 ·rfl
end Go.Proofs.YtifgcfepbenpjaaGreat
