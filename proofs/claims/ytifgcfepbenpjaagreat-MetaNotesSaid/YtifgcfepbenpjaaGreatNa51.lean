/- Texts of layers 1 to 12, joined. -/
import Derived.Test.YtifgcfepbenpjaaGreatNa50
import Derived.Deep.RegionHeld3
set_option maxRecDepth 100000
set_option maxHeartbeats 12800000
set_option linter.unusedVariables false
namespace Go.Proofs.YtifgcfepbenpjaaGreat
open Go.RowKit
theorem rcommit_anew (P T A M W Q:Int) (D:Option Addr) (nd d:Nat) (D':Option Addr) (nd' d':Nat) (S:List Sec) (C:List Pnd) (v a g n u:Int) (B:Option Addr) (k c:Nat) (t:List Rc) (Ab:Option Addr) (nb cb:Nat) (b:Txt) (w:World) (hq:Dsk w D nd d D' nd' d' S C) (hs:SmallD S C) (ht:Recs w B k c t) (hk:k≤100000) (hb:Arg w .u8 Ab nb cb b) (hby:∀ z ∈ b,isByte z)
  (h0:boE P T A M W Q S C ⟨(v,a,g),n,u,t⟩=0) (h4:ansE (putR t b)=0) (hn:A≤n) (hu:0≤u∧u < 65535) (hi:isS (v,a,g)) (har:arS a) (h9:spE P T A M W Q S C (anewS ⟨(v,a,g),n,u,t⟩)=0) (m':Mt) (l':List Ac) (kt:Nat) (hkt:m'.t.length=kt) (nl:Nat) (hnl:l'.length=nl) (hO:cmM A ⟨(v,a,g),n,u,t⟩ (ansL (putR t b))=m') (hL:cmA P T A M W Q S C ⟨(v,a,g),n,u,t⟩ b (ansL (putR t b))=l')
  (hNO:∀ wx,Dsk wx D nd d D' nd' d' S C→Recs wx B k c t→Arg wx .u8 Ab nb cb b→Calls Tryz.prog 57 #[cfgV P T A M W Q,diskV D nd d D' nd' d',metV v a g n u B k c,.slice Ab nb cb] wx (NoteOut wx m' l')) :
  Calls Tryz.prog 27 #[cfgV P T A M W Q,diskV D nd d D' nd' d',metV v a g n u B k c,.slice Ab nb cb] w (PlanOut12 w (cmO P T A M W Q S C ⟨(v,a,g),n,u,t⟩ b) (cmL P T A M W Q S C ⟨(v,a,g),n,u,t⟩ b) (cmE P T A M W Q S C ⟨(v,a,g),n,u,t⟩ b)):=by
 obtain ⟨x,hbel⟩:=MBox.new P T A M W Q v a g n u hq ht
 obtain ⟨z,h2⟩:=met_box (((w.alloc (.cells #[.int .i64 P,.int .i64 T,.int .i64 A,.int .i64 M,.int .i64 W,.int .i64 Q] 36)).alloc (.cells #[.slice D nd d,.slice D' nd' d'] 25)).alloc (.cells #[.int .u32 v,.int .i64 a,.int .u64 g,.int .i64 n,.int .i64 u,.slice B k c] 32)) 0 0 0 0 0 none 0 0
 rw [World.size_alloc,World.size_alloc,World.size_alloc] at z
 have x:=x.below h2
 obtain ⟨w0,hw0⟩:∃ x:World,x=((((w.alloc (.cells #[.int .i64 P,.int .i64 T,.int .i64 A,.int .i64 M,.int .i64 W,.int .i64 Q] 36)).alloc (.cells #[.slice D nd d,.slice D' nd' d'] 25)).alloc (.cells #[.int .u32 v,.int .i64 a,.int .u64 g,.int .i64 n,.int .i64 u,.slice B k c] 32)).alloc (.cells #[.int .u32 0,.int .i64 0,.int .u64 0,.int .i64 0,.int .i64 0,.slice none 0 0] 32)):=⟨_,rfl⟩
 rw [← hw0] at x z h2
 have X:=Lh x
 have Z:=Lh z
 have BB:=Lh (hbel.trans (h2.mono hbel.size))
 have BO:=Lh (fun wx hx hy=>rboth12_any P T A M W Q v a g n u D nd d D' nd' d' S C B k c t wx hx hs hy hk)
 obtain ⟨⟨c0,c1,c2,c3,c4,c5,c6,c7⟩,d0,d1,d2,d3,d4,d5⟩:=x.cells
 clear x z h2 hbel
 have hE:cmE P T A M W Q S C ⟨(v,a,g),n,u,t⟩ b=spE P T A M W Q S C (anewS ⟨(v,a,g),n,u,t⟩):=by
  unfold cmE cmE0
  rw [if_pos h0,if_pos h4,if_neg (by show ¬ n < A;omega)]
  exact if_neg (by show ¬ u=65535;omega)
 unfold cmO cmL
 rw [h9] at hE
 rw [hE,if_pos rfl,if_pos rfl]
 dsimp only
 rw [hO,hL]
 obtain ⟨⟨v1,a1,g1⟩,n1,u1,t1⟩:=m'
 unfold NoteOut at hNO
 unfold PlanOut12
 dsimp only at hNO hkt ⊢
 rw [hkt,hnl] at hNO ⊢
 have NO:=Lh hNO
 have hv0:0≤v∧v < 4294967296:=hi.1
 have ha01:0≤a∧a≤1:=by unfold arS at har;omega
 have hg2:0≤65536 * v + u + 1∧65536 * v + u + 1 < 18446744073709551616:=by omega
 have NX:=Lh (fun wx=>rnext_any v a g n u B k c wx hv0 ⟨hu.1,by omega⟩)
 have PN:=Lh (fun wx hx=>rplan9_any P T A M W Q D nd d D' nd' d' S C v (1 - a) (65536 * v + u + 1) wx hx hs ⟨hv0,hg2⟩)
 unfold RPlan at PN
 rw [show spE P T A M W Q S C (v,1 - a,65536 * v + u + 1)=0 from h9] at PN
 obtain ⟨g2,hge⟩:∃ y,y=65536 * v + u + 1:=⟨_,rfl⟩
 rw [← hge] at NX PN hg2
 obtain ⟨sl,hsl⟩:∃ y,y=spL P T A M W Q S C (v,1 - a,g2):=⟨_,rfl⟩
 rw [← hsl] at PN
 obtain ⟨hu0,hu1⟩:=hu
 obtain ⟨ha0,ha1⟩:=ha01
 have hwa:IntKind.i64.wrap (1 - a)=1 - a:=wrap_i64_byte ⟨by omega,by omega⟩
 have PB:=Lh (hb.below BB.out)
 have PU:=Lh (fun wx hx hy=>rput11_any B k c t Ab nb cb b wx hx hk hy hby)
 unfold PutOut at PU
 rw [h4] at PU
 rw [h0] at BO
 clear hE h0 h4 hNO hO hL hkt hnl hge hsl h9 hi har hq hs ht hk hb hby
 go_enter Tryz.func27,Tryz.ntmps27
 go_wp2_with fail
 rw [← hw0]
 clear hw0
 refine (BO.out _ X.out.two.dsk.dsk X.out.tab).mono ?_
 rintro e1 w1 ⟨rfl,hb⟩
 have BB:=Lh (BB.out.trans (hb.mono BB.out.size))
 have X:=Lh (X.out.below hb)
 have Z:=Lh (Z.out.below hb Z.out.lt)
 have PB:=Lh (PB.out.below hb)
 clear hb BO c0 c1 c2 c3 c4 c5 c6 c7 d0 d1 d2 d3 d4 d5
 obtain ⟨⟨c0,c1,c2,c3,c4,c5,c6,c7⟩,d0,d1,d2,d3,d4,d5⟩:=X.out.cells
 go_wp2_with fail
 refine (PU.out _ X.out.tab PB.out).mono ?_
 rintro e1 w2 ⟨A2,x2,rfl,hown,hb⟩
 have BB:=Lh (BB.out.trans (hb.mono BB.out.size))
 have X:=Lh (X.out.below hb)
 have Z:=Lh (Z.out.below hb Z.out.lt)
 have PB:=Lh (PB.out.below hb)
 clear hb hown PU c0 c1 c2 c3 c4 c5 c6 c7 d0 d1 d2 d3 d4 d5
 obtain ⟨⟨c0,c1,c2,c3,c4,c5,c6,c7⟩,d0,d1,d2,d3,d4,d5⟩:=X.out.cells
 go_upto_region 10 with fail
 clear c0 c1 c2 c3 c4 c5 c6 c7 d0 d1 d2 d3 d4 d5
 have hcur:Below w2.heap.size w2 w2.drew:=below_drewN (Below.refl _ _) 1
 have keepX:∀ wx,Below w2.heap.size w2 wx→wx.cell? ⟨w.heap.size,0,none⟩=some (.int .i64 P)∧wx.cell? ⟨w.heap.size,1,none⟩=some (.int .i64 T)∧wx.cell? ⟨w.heap.size,2,none⟩=some (.int .i64 A)∧wx.cell? ⟨w.heap.size,3,none⟩=some (.int .i64 M)∧wx.cell? ⟨w.heap.size,4,none⟩=some (.int .i64 W)∧wx.cell? ⟨w.heap.size,5,none⟩=some (.int .i64 Q)∧wx.cell? ⟨w.heap.size + 1,0,none⟩=some (.slice D nd d)∧wx.cell? ⟨w.heap.size + 1,1,none⟩=some (.slice D' nd' d')∧wx.cell? ⟨w.heap.size + 2,0,none⟩=some (.int .u32 v)∧wx.cell? ⟨w.heap.size + 2,1,none⟩=some (.int .i64 a)∧wx.cell? ⟨w.heap.size + 2,2,none⟩=some (.int .u64 g)∧wx.cell? ⟨w.heap.size + 2,3,none⟩=some (.int .i64 n)∧wx.cell? ⟨w.heap.size + 2,4,none⟩=some (.int .i64 u)∧wx.cell? ⟨w.heap.size + 2,5,none⟩=some (.slice B k c):=fun wx hx=>by
  obtain ⟨⟨c0,c1,c2,c3,c4,c5,c6,c7⟩,d0,d1,d2,d3,d4,d5⟩:=(X.out.below hx).cells
  exact ⟨c0,c1,c2,c3,c4,c5,c6,c7,d0,d1,d2,d3,d4,d5⟩
 have hkX:=keepX _ hcur
 go_region_held3 (fun w'=>w'.cell? ⟨w.heap.size,0,none⟩=some (.int .i64 P)∧w'.cell? ⟨w.heap.size,1,none⟩=some (.int .i64 T)∧w'.cell? ⟨w.heap.size,2,none⟩=some (.int .i64 A)∧w'.cell? ⟨w.heap.size,3,none⟩=some (.int .i64 M)∧w'.cell? ⟨w.heap.size,4,none⟩=some (.int .i64 W)∧w'.cell? ⟨w.heap.size,5,none⟩=some (.int .i64 Q)∧w'.cell? ⟨w.heap.size + 1,0,none⟩=some (.slice D nd d)∧w'.cell? ⟨w.heap.size + 1,1,none⟩=some (.slice D' nd' d')∧w'.cell? ⟨w.heap.size + 2,0,none⟩=some (.int .u32 v)∧w'.cell? ⟨w.heap.size + 2,1,none⟩=some (.int .i64 a)∧w'.cell? ⟨w.heap.size + 2,2,none⟩=some (.int .u64 g)∧w'.cell? ⟨w.heap.size + 2,3,none⟩=some (.int .i64 n)∧w'.cell? ⟨w.heap.size + 2,4,none⟩=some (.int .i64 u)∧w'.cell? ⟨w.heap.size + 2,5,none⟩=some (.slice B k c))
  (first | exact hkX | go_keep)
  (first
   | (go_at_call 56;with_reducible refine (NX.out _).mono ?_;rintro e1 w3 ⟨rfl,hb⟩;have hcur:=hcur.trans (hb.mono hcur.size);have hkX:=keepX _ hcur)
   | (go_at_call 53;with_reducible refine (PN.out _ (X.out.below hcur).two.dsk.dsk).mono ?_;rintro e1 w4 ⟨A5,x5,rfl,hP,hb⟩;have hcur:=hcur.trans (hb.mono hcur.size);have hkX:=keepX _ hcur))
 all_goals (
  have BB:=Lh (BB.out.trans (hcur.mono BB.out.size))
  have Z:=Lh (Z.out.below hcur Z.out.lt)
  have X:=Lh (X.out.below hcur)
  have PB:=Lh (PB.out.below hcur)
  clear hkX keepX hcur
  obtain ⟨⟨c0,c1,c2,c3,c4,c5,c6,c7⟩,d0,d1,d2,d3,d4,d5⟩:=X.out.cells
  go_wp2_with fail
  refine (NO.out _ X.out.two.dsk.dsk X.out.tab PB.out).mono ?_
  rintro e w5 ⟨A1,x1,A3,x3,L3,rfl,hown,hoA,hax,hb⟩
  have G1:=Lh Z.out.lt
  have S1:=Lh BB.out.size
  obtain ⟨y,hk1⟩:=met_box w5 v1 a1 g1 n1 u1 A1 kt x1
  have BB:=Lh ((BB.out.trans (hb.mono BB.out.size)).trans (hk1.mono (BB.out.trans (hb.mono BB.out.size)).size))
  have Z:=Lh ((Z.out.below hb Z.out.lt).below hk1 (Nat.lt_of_lt_of_le Z.out.lt hb.size))
  have O:=Lh (hown.below hk1)
  have OA:=Lh (hoA.below hk1)
  have AX:=Lh (hax.below hk1)
  clear hown hoA hax hb hk1 NO c0 c1 c2 c3 c4 c5 c6 c7 d0 d1 d2 d3 d4 d5
  obtain ⟨y0,y1,y2,y3,y4,y5⟩:=y.met
  clear y
  have fz:=Z.out.free
  obtain ⟨e0,e1,e2,e3,e4,e5⟩:=Z.out.met
  go_wp2
  obtain ⟨z0,z1,z2,z3,z4,z5⟩:=(Z.out.sixM v1 a1 g1 n1 u1 A1 kt x1).met
  refine bodyPost_ret (v:=.tuple #[metV v1 a1 g1 n1 u1 A1 kt x1,.slice A3 nl x3,.int .i64 0]) ?_ rfl ⟨A1,x1,A3,x3,L3,rfl,OwnRecs.lower (OwnRecs.sixM O.out (G:=w.heap.size + 1 + 1 + 1) G1.out v1 a1 g1 n1 u1 A1 kt x1) S1.out,OwnAcs.lower ((((((OA.out.away G1.out 0 _).away G1.out 1 _).away G1.out 2 _).away G1.out 3 _).away G1.out 4 _).away G1.out 5 _) S1.out,⟨AX.out.1,fun i hi=>⟨(AX.out.2 i hi).1,(AX.out.2 i hi).2.1,Arg.offM Z.out (grown_six _ _ _ _ _ _ _ _ _ _) (AX.out.2 i hi).2.2⟩⟩,below_sixM BB.out (by omega) v1 a1 g1 n1 u1 A1 kt x1⟩
  clear fz e0 e1 e2 e3 e4 e5 y0 y1 y2 y3 y4 y5
  simp [results,Tryz.f27,go_sem,z0,z1,z2,z3,z4,z5])
theorem rcommit12_any (P T A M W Q:Int) (D:Option Addr) (nd d:Nat) (D':Option Addr) (nd' d':Nat) (S:List Sec) (C:List Pnd) (v a g n u:Int) (B:Option Addr) (k c:Nat) (t:List Rc) (Ab:Option Addr) (nb cb:Nat) (b:Txt) (w:World) (hq:Dsk w D nd d D' nd' d' S C) (hs:SmallD S C) (hi:isS (v,a,g)) (ht:Recs w B k c t) (hk:k≤100000) (hb:Arg w .u8 Ab nb cb b) (hby:∀ z ∈ b,isByte z) :
  Calls Tryz.prog 27 #[cfgV P T A M W Q,diskV D nd d D' nd' d',metV v a g n u B k c,.slice Ab nb cb] w (PlanOut12 w (cmO P T A M W Q S C ⟨(v,a,g),n,u,t⟩ b) (cmL P T A M W Q S C ⟨(v,a,g),n,u,t⟩ b) (cmE P T A M W Q S C ⟨(v,a,g),n,u,t⟩ b)):=by
 by_cases h0:boE P T A M W Q S C ⟨(v,a,g),n,u,t⟩=0
 ·by_cases h4:ansE (putR t b)=0
  ·obtain ⟨t',ht'⟩:=ans_zero h4
   have hmm:mayT P T A M W Q S C∧mayM P T A M W Q ⟨(v,a,g),n,u,t⟩:=by
    unfold boE at h0
    split at h0
    ·assumption
    ·cases h0
   have hu:=hmm.2.2.2.2.1
   have har:=hmm.2.2.1
   have ht'':ansL (putR t b)=t':=by rw [ht'];rfl
   dsimp only at hu har
   by_cases hn:n < A
   ·refine rcommit_room P T A M W Q D nd d D' nd' d' S C v a g n u B k c t Ab nb cb b w hq hs ht hk hb hby h0 h4 hn _ _ _ rfl _ rfl rfl rfl fun wx h1 h2 h3=>?_
    rw [ht'']
    exact rnoted_any P T A M W Q D nd d D' nd' d' S C v a g n u B k c t Ab nb cb b wx h1 hs hmm.1 hmm.2 hi h2 h3 hby t' ht' fun h=>absurd hn h
   ·by_cases hu5:u=65535
    ·exact rcommit_full P T A M W Q D nd d D' nd' d' S C v a g n u B k c t Ab nb cb b w hq hs ht hk hb hby h0 h4 (by omega) hu5
    ·have hu6:0≤u∧u < 65535:=by omega
     by_cases h9:spE P T A M W Q S C (anewS ⟨(v,a,g),n,u,t⟩)=0
     ·refine rcommit_anew P T A M W Q D nd d D' nd' d' S C v a g n u B k c t Ab nb cb b w hq hs ht hk hb hby h0 h4 (by omega) hu6 hi har h9 _ _ _ rfl _ rfl rfl rfl fun wx h1 h2 h3=>?_
      rw [ht'']
      exact rnoted_any P T A M W Q D nd d D' nd' d' S C v a g n u B k c t Ab nb cb b wx h1 hs hmm.1 hmm.2 hi h2 h3 hby t' ht' fun _=>⟨hu6.2,h9⟩
     ·exact rcommit_sup P T A M W Q D nd d D' nd' d' S C v a g n u B k c t Ab nb cb b w hq hs ht hk hb hby h0 h4 (by omega) hu6 hi har h9
  ·refine rcommit_put P T A M W Q D nd d D' nd' d' S C v a g n u B k c t Ab nb cb b w hq hs ht hk hb hby ?_ (.inr h4)
   unfold cmE
   rw [if_pos h0,if_neg h4]
   exact h4
 ·refine rcommit_put P T A M W Q D nd d D' nd' d' S C v a g n u B k c t Ab nb cb b w hq hs ht hk hb hby ?_ (.inl h0)
  unfold cmE
  rw [if_neg h0]
  decide
def stE (w w':World):Prop:=∃ G:Nat,Blk w G 5 []∧w.grownBy w' (some G)
theorem own_empty {w:World} {base G:Nat} (hG:Blk w G 5 []) (hb:base≤G):w.ownsRow base 5 1 (.slice (some ⟨G,0,none⟩) 0 0) 0 []:=⟨rfl,.inr ⟨G,0,#[],rfl,hb,hG,Nat.le_refl _,by decide,rfl,rfl⟩⟩
theorem txt_beside {w w':World} {base n c:Nat} {A:Option Addr} {zs:Txt} (h:OwnTxt w base A n c zs) (hs:stE w w'):OwnTxt w' base A n c zs:=by
 obtain ⟨G,hG,hg⟩:=hs
 obtain ⟨h1,h2,h3,h4⟩:=h
 refine ⟨h1,h2,h3,?_⟩
 rcases h4 with h0 | ⟨g,o,cs,e,hb,hc,hj⟩
 ·exact .inl h0
 ·by_cases h0:n=0
  ·exact .inl h0
  ·refine .inr ⟨g,o,cs,e,hb,?_,hj⟩
   have hne:g≠G:=fun e2=>by
    subst e2
    unfold Blk at hG
    rw [hG] at hc
    injection hc with hc
    injection hc with hc _
    have:=hj 0 (by omega)
    rw [← hc] at this
    simp at this
   rw [hg.block g (Array.getElem?_eq_some_iff.1 hc).1 (by simpa using hne)]
   exact hc
theorem owns_beside {w w':World} {base n s:Nat} {e:TypeId} {v:Value} {xs:List Value} (h:w.ownsRow base e s v n xs) (he:e≠5) (hs:stE w w'):w'.ownsRow base e s v n xs:=by
 obtain ⟨G,hG,hg⟩:=hs
 refine owns_keep h fun g cs _ hc=>hg.block g (Array.getElem?_eq_some_iff.1 hc).1 ?_
 intro e2
 injection e2 with e2
 subst e2
 unfold Blk at hG
 rw [hG] at hc
 injection hc with hc
 injection hc with _ h2
 exact he h2.symm
theorem OwnPnds.besideE {w w':World} {base n c:Nat} {A:Option Addr} {ss:List Pnd} (h:OwnPnds w base A n c ss) (hs:stE w w'):OwnPnds w' base A n c ss:=by
 obtain ⟨vs,h1,h2,h3,h4⟩:=h
 exact ⟨vs,owns_beside h1 (by decide) hs,h2,h3,fun i hi=>by obtain ⟨Ai,ni,ci,e1,e2,ht⟩:=h4 i hi;exact ⟨Ai,ni,ci,e1,e2,txt_beside ht hs⟩⟩
theorem OwnSecs.besideE {w w':World} {base n c:Nat} {A:Option Addr} {ss:List Sec} (h:OwnSecs w base A n c ss) (hs:stE w w'):OwnSecs w' base A n c ss:=by
 obtain ⟨vs,h1,h2,h3,h4⟩:=h
 exact ⟨vs,owns_beside h1 (by decide) hs,h2,h3,fun i hi=>by obtain ⟨Ai,ni,ci,e1,e2,ht⟩:=h4 i hi;exact ⟨Ai,ni,ci,e1,e2,txt_beside ht hs⟩⟩
theorem OwnDsk.besideE {w w':World} {base n c n' c':Nat} {A A':Option Addr} {S:List Sec} {C:List Pnd} (h:OwnDsk w base A n c A' n' c' S C) (hs:stE w w'):OwnDsk w' base A n c A' n' c' S C:=⟨h.secs.besideE hs,h.pnds.besideE hs⟩
theorem OwnRecs.besideE {w w':World} {base n c:Nat} {A:Option Addr} {L:List Rc} (h:OwnRecs w base A n c L) (hs:stE w w'):OwnRecs w' base A n c L:=⟨owns_beside h.1 (by decide) hs,h.2.1,h.2.2⟩
theorem step_dupG (w:World) {ops:Array Oper} {o:Oper} {a:Act} {K:Act→World→Prop} {Q:Exit→Act→World→Prop} {E:Prop} (hgd:o.guard=none) (s x:Operand)
  (ho:o.op=.call { callee:=.builtin .append,args:=#[s,x],argTypes:=#[42,42] }) (base G:Nat) (hG:Blk w G 5 []) (hb:base≤G) (hs:a.eval s=.slice (some ⟨G,0,none⟩) 0 0)
  (A:Option Addr) (m c:Nat) (zs:Txt) (hx:a.eval x=.slice A m c) (hr:Arg w .u8 A m c zs) (hm:m≤1000)
  (h:∀ A' c' w',w'.ownsRow base 5 1 (.slice A' m c') m (ints .u8 zs)→stE w w'→Below base w w'→K (a.put o.dst (.slice A' m c')) w') :
  if Region.wanted o (yielded ops a.tmps)=true then Oper.wp Tryz.prog o a w K Q else E:=by
 have hw:Region.wanted o (yielded ops a.tmps)=true:=by simp [Region.wanted,hgd]
 rw [if_pos hw]
 obtain ⟨i,hi,hz,hsize,hby⟩:=info_parts byte_info
 have hml:(1000:Nat)≤maxLen:=by decide
 have hlt:=hG.lt
 obtain ⟨v',w',hrun,hown',hg,_⟩:=run_app (P:=Tryz.prog) w base 42 o.type 5 i _ 1 Tryz.underlying42 hi hz hsize hby rfl _ 0 [] (own_empty hG hb) w.heap.size A m c (ints .u8 zs) (by rw [ints_length,hr.len]) hr.seq (ints_one _ _) (by omega) (by omega) (by omega)
 obtain ⟨A',c',rfl⟩:=owns_slice hown'
 rw [Nat.zero_add,List.nil_append] at hown'
 rw [Nat.zero_add] at hrun
 unfold Oper.wp execOp
 simp only [ho,resolve,invoke,builtin,Sem.run_bind,Sem.run_pure,Result.andThen_ok,List.map_toArray,List.map_cons,List.map_nil,hs,hx,hrun]
 exact h A' c' w' hown' ⟨G,hG,hg⟩ ((Below.refl base w).grown hg (by omega) (fun g e=>by injection e with e;subst e;exact hb))
theorem Blk.besideE {w w':World} {H:Nat} {t:TypeId} {cs:List Value} (h:Blk w H t cs) (ht:t≠5) (hs:stE w w'):Blk w' H t cs:=by
 obtain ⟨G,hG,hg⟩:=hs
 unfold Blk
 rw [hg.block H h.lt (fun e=>by injection e with e;exact Blk.apart h hG ht e)]
 exact h
theorem txt_box {w:World} {base n c H:Nat} {A:Option Addr} {zs:Txt} {t:TypeId} {cs:List Value} (h:OwnTxt w base A n c zs) (hb:Blk w H t cs) (ht:t≠5) (i:Nat) (u:Value):OwnTxt (w.setCell ⟨H,i,none⟩ u) base A n c zs :=
 h.keep fun g _ hu=>Below.heap_setCell w _ u g fun e2=>by
  have e3:g=H:=e2
  subst e3
  obtain ⟨cs',hc⟩:=hu
  unfold Blk at hb
  rw [hb] at hc
  injection hc with hc
  injection hc with _ h2
  exact ht h2
theorem txt_six {w:World} {base n c H:Nat} {A:Option Addr} {zs:Txt} {v' a' g' n' u':Int} {B':Option Addr} {k' c':Nat} (h:OwnTxt w base A n c zs) (hb:Blk w H 32 (metL v' a' g' n' u' B' k' c')) (v a g m u:Int) (B:Option Addr) (k d:Nat):OwnTxt ((((((w.setCell ⟨H,0,none⟩ (.int .u32 v)).setCell ⟨H,1,none⟩ (.int .i64 a)).setCell ⟨H,2,none⟩ (.int .u64 g)).setCell ⟨H,3,none⟩ (.int .i64 m)).setCell ⟨H,4,none⟩ (.int .i64 u)).setCell ⟨H,5,none⟩ (.slice B k d)) base A n c zs :=
 txt_box (txt_box (txt_box (txt_box (txt_box (txt_box h hb (by decide) 0 _) (hb.set 0 _) (by decide) 1 _) ((hb.set 0 _).set 1 _) (by decide) 2 _) (((hb.set 0 _).set 1 _).set 2 _) (by decide) 3 _) ((((hb.set 0 _).set 1 _).set 2 _).set 3 _) (by decide) 4 _) (((((hb.set 0 _).set 1 _).set 2 _).set 3 _).set 4 _) (by decide) 5 _
theorem cmL_small {P T A M W Q:Int} {S:List Sec} {C:List Pnd} {m:Mt} {b:Txt}:(cmL P T A M W Q S C m b).length≤20:=by
 unfold cmL
 split
 ·have ht:mayTab (ansL (putR m.t b)):=by
   cases h:putR m.t b with
   | none=>exact trivial
   | some t'=>exact (put_may h).2
  unfold cmA
  split
  ·exact (by decide:2≤20)
  ·rw [List.length_append,actsA_length,actsA_length,rowsP,writesP_len]
   have:=three_of12 ht
   have:=@spl_one P T A M W Q S C (anewS m)
   omega
 ·exact Nat.zero_le _
theorem mnotes_of (P T A M W Q:Int) (D:Option Addr) (nd d:Nat) (D':Option Addr) (nd' d':Nat) (S:List Sec) (C:List Pnd) (v a g n u:Int) (B:Option Addr) (k c:Nat) (t:List Rc) (Ab:Option Addr) (nb cb:Nat) (b:Txt) (w:World) (hq:Dsk w D nd d D' nd' d' S C) (ht:Recs w B k c t) (hi:isS (v,a,g)) (hb:Arg w .u8 Ab nb cb b) (hby:∀ z ∈ b,isByte z) :
  Calls Tryz.prog 5 #[cfgV P T A M W Q,diskV D nd d D' nd' d',metV v a g n u B k c,.slice Ab nb cb] w fun e w'=>e=.returned (.bool true)∧Below w.heap.size w w':=by
 obtain ⟨x,hbel⟩:=MBox.new P T A M W Q v a g n u hq ht
 obtain ⟨w0,hw0⟩:∃ x:World,x=(((w.alloc (.cells #[.int .i64 P,.int .i64 T,.int .i64 A,.int .i64 M,.int .i64 W,.int .i64 Q] 36)).alloc (.cells #[.slice D nd d,.slice D' nd' d'] 25)).alloc (.cells #[.int .u32 v,.int .i64 a,.int .u64 g,.int .i64 n,.int .i64 u,.slice B k c] 32)):=⟨_,rfl⟩
 rw [← hw0] at x hbel
 have X:=Lh x
 have BB:=Lh hbel
 have NB:=Lh (hb.below hbel)
 have HBY:=Lh hby
 have gg:=fun w hx=>great_any D nd d D' nd' d' S C 300 w hx
 obtain ⟨⟨c0,c1,c2,c3,c4,c5,c6,c7⟩,d0,d1,d2,d3,d4,d5⟩:=x.cells
 have htl:=ht.len
 clear hq hbel x ht hb hby
 go_enter Tryz.func5,Tryz.ntmps5
 go_wp2_with fail
 rw [← hw0]
 clear hw0
 cases hg1:greatD S C 300 with
 | true =>
  rw [hg1] at gg
  refine (gg _ X.out.two.dsk.dsk).mono ?_
  rintro e w1 ⟨rfl,hb⟩
  have B:=Lh (BB.out.trans (hb.mono BB.out.size))
  clear hb c0 c1 c2 c3 c4 c5 c6 c7 d0 d1 d2 d3 d4 d5
  go_wp2
  go_ret
  exact ⟨rfl,B.out⟩
 | false =>
  rw [hg1] at gg
  have SZ:=Lh (small_ofD (by decide) (by decide) hg1)
  refine (gg _ X.out.two.dsk.dsk).mono ?_
  rintro e w1 ⟨rfl,hb⟩
  have BB:=Lh (BB.out.trans (hb.mono BB.out.size))
  have X:=Lh (X.out.below hb)
  have NB:=Lh (NB.out.below hb)
  clear hb gg hg1 c0 c1 c2 c3 c4 c5 c6 c7 d0 d1 d2 d3 d4 d5
  obtain ⟨⟨c0,c1,c2,c3,c4,c5,c6,c7⟩,d0,d1,d2,d3,d4,d5⟩:=X.out.cells
  by_cases hl1:100 < k
  ·have hl2:(100:Int) < (k:Int):=by omega
   go_wp2
   go_ret
   exact ⟨rfl,BB.out⟩
  by_cases hn1:100 < nb
  ·have hn2:(100:Int) < (nb:Int):=by omega
   have hl2:¬ (100:Int) < (k:Int):=by omega
   go_wp2
   go_ret
   exact ⟨rfl,BB.out⟩
  have hl2:¬ (100:Int) < (k:Int):=by omega
  have hn2:¬ (100:Int) < (nb:Int):=by omega
  have TW:=Lh (fun wx hx=>twin_any D nd d D' nd' d' S C wx hx SZ.out)
  have TM:=Lh (fun wx hx=>rtwin12_any v a g n u B k c t wx hx (by omega))
  go_upto_region 3 with fail
  clear c0 c1 c2 c3 c4 c5 c6 c7 d0 d1 d2 d3 d4 d5
  refine wp_region_upto2 rfl 9 (fun a0 f ax wx=>∃ x0 x1 x2 x3 x4 x5 x6 x7 x8:Value,ax=(((((((((a0.put (some 38) x0).put (some 39) x1).put (some 40) x2).put (some 41) x3).put (some 42) x4).put (some 43) x5).put (some 44) x6).put (some 9) x7).put (some 10) x8)∧Below w1.heap.size w1 wx∧(∀ j,f j=true→(([(Cl.is (.agg #[.slice D nd d,.slice D' nd' d'])),(⟨fun yv wx=>∃ (B1:Option Addr) (e1:Nat) (B1':Option Addr) (e1':Nat),yv=diskV B1 nd e1 B1' nd' e1'∧OwnDsk wx w1.heap.size B1 nd e1 B1' nd' e1' S C,fun hb h=>by obtain ⟨B1,e1,B1',e1',e,h1⟩:=h;exact ⟨B1,e1,B1',e1',e,h1.below hb⟩,fun hs h=>by obtain ⟨B1,e1,B1',e1',e,h1⟩:=h;exact ⟨B1,e1,B1',e1',e,h1.besideE hs⟩⟩),(Cl.is (.agg #[.int .u32 v,.int .i64 a,.int .u64 g,.int .i64 n,.int .i64 u,.slice B k c])),(⟨fun yv wx=>∃ (A2:Option Addr) (e2:Nat),yv=metV v a g n u A2 k e2∧OwnRecs wx w1.heap.size A2 k e2 t,fun hb h=>by obtain ⟨A2,e2,e,h1⟩:=h;exact ⟨A2,e2,e,h1.below hb⟩,fun hs h=>by obtain ⟨A2,e2,e,h1⟩:=h;exact ⟨A2,e2,e,h1.besideE hs⟩⟩),(Cl.any),(Cl.is (.slice Ab nb cb)),(⟨fun yv wx=>∃ (A3:Option Addr) (e3:Nat),yv=.slice A3 nb e3∧OwnTxt wx w1.heap.size A3 nb e3 b,fun hb h=>by obtain ⟨A3,e3,e,h1⟩:=h;exact ⟨A3,e3,e,h1.below hb⟩,fun hs h=>by obtain ⟨A3,e3,e,h1⟩:=h;exact ⟨A3,e3,e,txt_beside h1 hs⟩⟩),(⟨fun yv wx=>∃ (h9:Nat),yv=.pointer (some ⟨h9,0,none⟩)∧w1.heap.size≤h9∧Blk wx h9 25 [.slice none 0 0,.slice none 0 0],fun hb h=>by obtain ⟨h9,e,h1⟩:=h;exact ⟨h9,e,h1.1,h1.2.below hb h1.2.lt⟩,fun hs h=>by obtain ⟨h9,e,h1⟩:=h;exact ⟨h9,e,h1.1,h1.2.besideE (by decide) hs⟩⟩),(⟨fun yv wx=>∃ (h10:Nat),yv=.pointer (some ⟨h10,0,none⟩)∧w1.heap.size≤h10∧Blk wx h10 32 (metL 0 0 0 0 0 none 0 0),fun hb h=>by obtain ⟨h10,e,h1⟩:=h;exact ⟨h10,e,h1.1,h1.2.below hb h1.2.lt⟩,fun hs h=>by obtain ⟨h10,e,h1⟩:=h;exact ⟨h10,e,h1.1,h1.2.besideE (by decide) hs⟩⟩)]:List (Cl stE)).getD j Cl.any).p ([x0,x1,x2,x3,x4,x5,x6,x7,x8].getD j undef) wx)∧(f 6=false→f 4=true→∃ G:Nat,x4=.slice (some ⟨G,0,none⟩) 0 0∧w1.heap.size≤G∧Blk wx G 5 [])) (by decide) (by kernel_rfl) ?_ ?_ ?_
  ·exact ⟨undef,undef,undef,undef,undef,undef,undef,undef,undef,(by simp only [Act.put,stA,scZ,scS]),(Below.refl _ _).drew,(fun j h=>(by cases h)),(fun _ h=>(by cases h))⟩
  ·refine ⟨⟨⟨⟨⟨⟨⟨⟨⟨trivial,?_⟩,?_⟩,?_⟩,?_⟩,?_⟩,?_⟩,?_⟩,?_⟩,?_⟩
   ·intro f ax wx hJ hf hd K' hK
    obtain ⟨x0,x1,x2,x3,x4,x5,x6,x7,x8,hax,hB,hp,hx⟩:=hJ
    simp only [Act.put,stA,scZ,scS] at hax
    subst hax
    have HK:=Lh hK
    have HP:=Lh hp
    have HX:=Lh hx
    clear hK hp hf hd hx
    obtain ⟨⟨c0,c1,c2,c3,c4,c5,c6,c7⟩,d0,d1,d2,d3,d4,d5⟩:=(X.out.below hB).cells
    go_simp
    exact HK.out _ _ ⟨.agg #[.slice D nd d,.slice D' nd' d'],x1,x2,x3,x4,x5,x6,x7,x8,(by simp only [Act.put,stA,scZ,scS]),hB,stepP [x0,x1,x2,x3,x4,x5,x6,x7,x8] 0 (.agg #[.slice D nd d,.slice D' nd' d']) HP.out (by simp) rfl,fun h6 h4=>(by obtain ⟨G,q1,q2,q3⟩:=HX.out (less_of (by decide) h6) (more_of (by decide) h4);exact ⟨G,q1,q2,q3⟩)⟩
   ·intro f ax wx hJ hf hd K' hK
    obtain ⟨x0,x1,x2,x3,x4,x5,x6,x7,x8,hax,hB,hp,hx⟩:=hJ
    simp only [Act.put,stA,scZ,scS] at hax
    subst hax
    have HK:=Lh hK
    have e0:x0=.agg #[.slice D nd d,.slice D' nd' d']:=hp 0 (deps_at (k:=0) rfl rfl rfl hd)
    subst e0
    have HP:=Lh hp
    have HX:=Lh hx
    clear hK hp hf hd hx
    go_simp
    go_wp2_with (go_at_call 19;refine (TW.out _ (X.out.below hB).two.dsk.dsk).mono ?_;rintro e w3 ⟨B1,e1,B1',e1',rfl,hown,hb⟩)
    exact HK.out _ _ ⟨.agg #[.slice D nd d,.slice D' nd' d'],diskV B1 nd e1 B1' nd' e1',x2,x3,x4,x5,x6,x7,x8,(by simp only [Act.put,stA,scZ,scS]),hB.trans (hb.mono hB.size),stepB [.agg #[.slice D nd d,.slice D' nd' d'],x1,x2,x3,x4,x5,x6,x7,x8] 1 (diskV B1 nd e1 B1' nd' e1') hb HP.out (by simp) ⟨B1,e1,B1',e1',rfl,hown.lower hB.size⟩,fun h6 h4=>(by obtain ⟨G,q1,q2,q3⟩:=HX.out (less_of (by decide) h6) (more_of (by decide) h4);exact ⟨G,q1,q2,q3.below hb q3.lt⟩)⟩
   ·intro f ax wx hJ hf hd K' hK
    obtain ⟨x0,x1,x2,x3,x4,x5,x6,x7,x8,hax,hB,hp,hx⟩:=hJ
    simp only [Act.put,stA,scZ,scS] at hax
    subst hax
    have HK:=Lh hK
    have HP:=Lh hp
    have HX:=Lh hx
    clear hK hp hf hd hx
    obtain ⟨⟨c0,c1,c2,c3,c4,c5,c6,c7⟩,d0,d1,d2,d3,d4,d5⟩:=(X.out.below hB).cells
    go_simp
    exact HK.out _ _ ⟨x0,x1,.agg #[.int .u32 v,.int .i64 a,.int .u64 g,.int .i64 n,.int .i64 u,.slice B k c],x3,x4,x5,x6,x7,x8,(by simp only [Act.put,stA,scZ,scS]),hB,stepP [x0,x1,x2,x3,x4,x5,x6,x7,x8] 2 (.agg #[.int .u32 v,.int .i64 a,.int .u64 g,.int .i64 n,.int .i64 u,.slice B k c]) HP.out (by simp) rfl,fun h6 h4=>(by obtain ⟨G,q1,q2,q3⟩:=HX.out (less_of (by decide) h6) (more_of (by decide) h4);exact ⟨G,q1,q2,q3⟩)⟩
   ·intro f ax wx hJ hf hd K' hK
    obtain ⟨x0,x1,x2,x3,x4,x5,x6,x7,x8,hax,hB,hp,hx⟩:=hJ
    simp only [Act.put,stA,scZ,scS] at hax
    subst hax
    have HK:=Lh hK
    have e2:x2=.agg #[.int .u32 v,.int .i64 a,.int .u64 g,.int .i64 n,.int .i64 u,.slice B k c]:=hp 2 (deps_at (k:=0) rfl rfl rfl hd)
    subst e2
    have HP:=Lh hp
    have HX:=Lh hx
    clear hK hp hf hd hx
    go_simp
    go_wp2_with (go_at_call 20;refine (TM.out _ (X.out.below hB).tab).mono ?_;rintro e w3 ⟨A2,e2,rfl,hown,hb⟩)
    exact HK.out _ _ ⟨x0,x1,.agg #[.int .u32 v,.int .i64 a,.int .u64 g,.int .i64 n,.int .i64 u,.slice B k c],metV v a g n u A2 k e2,x4,x5,x6,x7,x8,(by simp only [Act.put,stA,scZ,scS]),hB.trans (hb.mono hB.size),stepB [x0,x1,.agg #[.int .u32 v,.int .i64 a,.int .u64 g,.int .i64 n,.int .i64 u,.slice B k c],x3,x4,x5,x6,x7,x8] 3 (metV v a g n u A2 k e2) hb HP.out (by simp) ⟨A2,e2,rfl,hown.lower hB.size⟩,fun h6 h4=>(by obtain ⟨G,q1,q2,q3⟩:=HX.out (less_of (by decide) h6) (more_of (by decide) h4);exact ⟨G,q1,q2,q3.below hb q3.lt⟩)⟩
   ·intro f ax wx hJ hf hd K' hK
    obtain ⟨x0,x1,x2,x3,x4,x5,x6,x7,x8,hax,hB,hp,hx⟩:=hJ
    simp only [Act.put,stA,scZ,scS] at hax
    subst hax
    have HK:=Lh hK
    have HP:=Lh hp
    have HX:=Lh hx
    clear hK hp hf hd hx
    go_simp
    exact HK.out _ _ ⟨x0,x1,x2,x3,.slice (some ⟨wx.heap.size,0,none⟩) 0 0,x5,x6,x7,x8,(by simp only [Act.put,stA,scZ,scS]),hB.trans (((Below.refl _ _).alloc (Nat.le_refl _) _).mono hB.size),stepB [x0,x1,x2,x3,x4,x5,x6,x7,x8] 4 (.slice (some ⟨wx.heap.size,0,none⟩) 0 0) ((Below.refl _ _).alloc (Nat.le_refl _) _) HP.out (by simp) trivial,fun _ _=>⟨_,rfl,hB.size,Blk.new _ _ _⟩⟩
   ·intro f ax wx hJ hf hd K' hK
    obtain ⟨x0,x1,x2,x3,x4,x5,x6,x7,x8,hax,hB,hp,hx⟩:=hJ
    simp only [Act.put,stA,scZ,scS] at hax
    subst hax
    have HK:=Lh hK
    have HP:=Lh hp
    have HX:=Lh hx
    clear hK hp hf hd hx
    go_simp
    exact HK.out _ _ ⟨x0,x1,x2,x3,x4,.slice Ab nb cb,x6,x7,x8,(by simp only [Act.put,stA,scZ,scS]),hB,stepP [x0,x1,x2,x3,x4,x5,x6,x7,x8] 5 (.slice Ab nb cb) HP.out (by simp) rfl,fun h6 h4=>(by obtain ⟨G,q1,q2,q3⟩:=HX.out (less_of (by decide) h6) (more_of (by decide) h4);exact ⟨G,q1,q2,q3⟩)⟩
   ·intro f ax wx hJ hf hd K' hK
    obtain ⟨x0,x1,x2,x3,x4,x5,x6,x7,x8,hax,hB,hp,hx⟩:=hJ
    simp only [Act.put,stA,scZ,scS] at hax
    subst hax
    have HK:=Lh hK
    have e5:x5=.slice Ab nb cb:=hp 5 (deps_at (k:=1) rfl rfl rfl hd)
    subst e5
    obtain ⟨G,e4,lG,bG⟩:=hx hf (deps_at (k:=0) rfl rfl rfl hd)
    subst e4
    have HP:=Lh hp
    have HX:=Lh hx
    clear hK hp hf hd hx
    refine step_dupG wx (by rfl) (.tmp 42) (.tmp 43) (by rfl) w1.heap.size G bG lG (by rfl) Ab nb cb b (by rfl) (NB.out.below hB) (by omega) ?_
    intro A3 e3 w5 hown hst hb5
    exact HK.out _ _ ⟨x0,x1,x2,x3,.slice (some ⟨G,0,none⟩) 0 0,.slice Ab nb cb,.slice A3 nb e3,x7,x8,(by simp only [List.getElem_toArray,List.getElem_cons_succ,List.getElem_cons_zero,Act.put,stA,scZ,scS]),hB.trans hb5,stepT [x0,x1,x2,x3,.slice (some ⟨G,0,none⟩) 0 0,.slice Ab nb cb,x6,x7,x8] 6 (.slice A3 nb e3) HP.out (fun c _ k=>c.sto hst k) (by simp) ⟨A3,e3,rfl,OwnTxt.of hown⟩,fun h=>(by simp at h)⟩
   ·intro f ax wx hJ hf hd K' hK
    obtain ⟨x0,x1,x2,x3,x4,x5,x6,x7,x8,hax,hB,hp,hx⟩:=hJ
    simp only [Act.put,stA,scZ,scS] at hax
    subst hax
    have HK:=Lh hK
    have HP:=Lh hp
    have HX:=Lh hx
    clear hK hp hf hd hx
    go_simp
    exact HK.out _ _ ⟨x0,x1,x2,x3,x4,x5,x6,.pointer (some ⟨wx.heap.size,0,none⟩),x8,(by simp only [Act.put,stA,scZ,scS]),hB.trans (((Below.refl _ _).alloc (Nat.le_refl _) _).mono hB.size),stepB [x0,x1,x2,x3,x4,x5,x6,x7,x8] 7 (.pointer (some ⟨wx.heap.size,0,none⟩)) ((Below.refl _ _).alloc (Nat.le_refl _) _) HP.out (by simp) ⟨_,rfl,hB.size,Blk.new _ _ _⟩,fun h6 h4=>(by obtain ⟨G,q1,q2,q3⟩:=HX.out (less_of (by decide) h6) (more_of (by decide) h4);exact ⟨G,q1,q2,q3.below ((Below.refl _ _).alloc (Nat.le_refl _) _) q3.lt⟩)⟩
   ·intro f ax wx hJ hf hd K' hK
    obtain ⟨x0,x1,x2,x3,x4,x5,x6,x7,x8,hax,hB,hp,hx⟩:=hJ
    simp only [Act.put,stA,scZ,scS] at hax
    subst hax
    have HK:=Lh hK
    have HP:=Lh hp
    have HX:=Lh hx
    clear hK hp hf hd hx
    go_simp
    exact HK.out _ _ ⟨x0,x1,x2,x3,x4,x5,x6,x7,.pointer (some ⟨wx.heap.size,0,none⟩),(by simp only [Act.put,stA,scZ,scS]),hB.trans (((Below.refl _ _).alloc (Nat.le_refl _) _).mono hB.size),stepB [x0,x1,x2,x3,x4,x5,x6,x7,x8] 8 (.pointer (some ⟨wx.heap.size,0,none⟩)) ((Below.refl _ _).alloc (Nat.le_refl _) _) HP.out (by simp) ⟨_,rfl,hB.size,Blk.new _ _ _⟩,fun h6 h4=>(by obtain ⟨G,q1,q2,q3⟩:=HX.out (less_of (by decide) h6) (more_of (by decide) h4);exact ⟨G,q1,q2,q3.below ((Below.refl _ _).alloc (Nat.le_refl _) _) q3.lt⟩)⟩
  ·intro f ax wx hall hJ fuel
   obtain ⟨x0,x1,x2,x3,x4,x5,x6,x7,x8,hax,hB,hp,hx⟩:=hJ
   simp only [Act.put,stA,scZ,scS] at hax
   have e0:x0=.agg #[.slice D nd d,.slice D' nd' d']:=hp 0 (hall 0 (by decide))
   subst e0
   obtain ⟨B1,e1,B1',e1',e1,f1⟩:=hp 1 (hall 1 (by decide))
   subst e1
   have F1:=Lh f1
   clear f1
   have e2:x2=.agg #[.int .u32 v,.int .i64 a,.int .u64 g,.int .i64 n,.int .i64 u,.slice B k c]:=hp 2 (hall 2 (by decide))
   subst e2
   obtain ⟨A2,e2,e3,f3⟩:=hp 3 (hall 3 (by decide))
   subst e3
   have F3:=Lh f3
   clear f3
   have e5:x5=.slice Ab nb cb:=hp 5 (hall 5 (by decide))
   subst e5
   obtain ⟨A3,e3,e6,f6⟩:=hp 6 (hall 6 (by decide))
   subst e6
   have F6:=Lh f6
   clear f6
   obtain ⟨h9,e7,f7⟩:=hp 7 (hall 7 (by decide))
   subst e7
   have F7:=Lh f7
   clear f7
   obtain ⟨h10,e8,f8⟩:=hp 8 (hall 8 (by decide))
   subst e8
   have F8:=Lh f8
   clear f8
   subst hax
   clear hp hall hx
   obtain ⟨l9,hD⟩:=F7.out
   obtain ⟨l10,hM⟩:=F8.out
   have nDM:=Blk.apart hD hM (by decide)
   have nMD:=Blk.apart hM hD (by decide)
   have HD:=Lh hD
   have HM:=Lh hM
   have HB:=Lh hB
   have L9:=Lh l9
   have L10:=Lh l10
   obtain ⟨zD0,zD1⟩:=hD.two_
   have gD0:=hD.free 0
   have gD1:=hD.free 1
   obtain ⟨zM0,zM1,zM2,zM3,zM4,zM5⟩:=Blk.met hM
   have gM0:=hM.free 0
   have gM1:=hM.free 1
   have gM2:=hM.free 2
   have gM3:=hM.free 3
   have gM4:=hM.free 4
   have gM5:=hM.free 5
   clear F7 F8 hD hM hB l9 l10
   change wpAny _ _ _ _ (fuel + 1 + 1 + 1) _ _ _
   refine wpAny_ready (rs:=[9]) (by kernel_rfl) (by simp) ?_
   refine AllReady.cons rfl (fun K hK=>?_) AllReady.nil
   have HK:=Lh hK
   clear hK
   go_simp
   refine HK.out _ _ ?_
   clear HK K
   refine wpAny_ready (rs:=[10]) (by kernel_rfl) (by simp) ?_
   refine AllReady.cons rfl (fun K hK=>?_) AllReady.nil
   have HK:=Lh hK
   clear hK
   go_simp
   refine HK.out _ _ ?_
   clear HK K
   refine wpAny_ready (rs:=[11]) (by kernel_rfl) (by simp) ?_
   refine AllReady.cons rfl (fun K hK=>?_) AllReady.nil
   have HK:=Lh hK
   clear hK
   go_simp
   refine HK.out _ _ ?_
   clear HK K
   refine wpAny_done (by kernel_rfl) ?_ _
   clear zD0 zD1 gD0 gD1 zM0 zM1 zM2 zM3 zM4 zM5 gM0 gM1 gM2 gM3 gM4 gM5 nMD
   have D2:=HD.out.two (.slice B1 nd e1) (.slice B1' nd' e1')
   have M2:=(HM.out.away (fun e=>nDM e.symm) 0 (.slice B1 nd e1)).away (fun e=>nDM e.symm) 1 (.slice B1' nd' e1')
   have O3:=F1.out.two HD.out (.slice B1 nd e1) (.slice B1' nd' e1')
   have R3:=(F3.out.boxD HD.out 0 (.slice B1 nd e1)).boxD (HD.out.set 0 _) 1 (.slice B1' nd' e1')
   have T3:=txt_box (txt_box F6.out HD.out (by decide) 0 (.slice B1 nd e1)) (HD.out.set 0 _) (by decide) 1 (.slice B1' nd' e1')
   have BD:=Lh (D2.sixOff nDM v a g n u A2 k e2)
   have BM:=Lh (M2.sixM v a g n u A2 k e2)
   have DO:=Lh (O3.sixM M2 v a g n u A2 k e2)
   have RM:=Lh (R3.boxSix M2 v a g n u A2 k e2)
   have NT:=Lh (txt_six T3 M2 v a g n u A2 k e2)
   have H4:=Lh (below_sixM ((HB.out.setCell (p:=⟨h9,0,none⟩) L9.out (.slice B1 nd e1)).setCell (p:=⟨h9,1,none⟩) L9.out (.slice B1' nd' e1')) L10.out v a g n u A2 k e2)
   obtain ⟨w4,hw4⟩:∃ y,y=(((((((wx.setCell ⟨h9,0,none⟩ (.slice B1 nd e1)).setCell ⟨h9,1,none⟩ (.slice B1' nd' e1')).setCell ⟨h10,0,none⟩ (.int .u32 v)).setCell ⟨h10,1,none⟩ (.int .i64 a)).setCell ⟨h10,2,none⟩ (.int .u64 g)).setCell ⟨h10,3,none⟩ (.int .i64 n)).setCell ⟨h10,4,none⟩ (.int .i64 u)).setCell ⟨h10,5,none⟩ (.slice A2 k e2):=⟨_,rfl⟩
   rw [← hw4] at BD BM DO RM NT H4 ⊢
   clear hw4 D2 M2 O3 R3 T3 nDM HD HM HB L9 L10 F1 F3 F6
   have BB:=Lh (BB.out.trans (H4.out.mono BB.out.size))
   have X:=Lh (X.out.below H4.out)
   have NB:=Lh (NB.out.below H4.out)
   have NO:=Lh NT.out.arg
   clear H4
   have PC:=Lh (fun wx hx hy hz=>pcommit12_any P T A M W Q B1 nd e1 B1' nd' e1' S C v a g n u A2 k e2 t A3 nb e3 b wx hx SZ.out hi hy (by omega) hz HBY.out (by omega))
   have RC:=Lh (fun wx hx hy hz=>rcommit12_any P T A M W Q D nd d D' nd' d' S C v a g n u B k c t Ab nb cb b wx hx SZ.out hi hy (by omega) hz HBY.out)
   have PR:=Lh (fun wx hx hy=>porderly_any P T A M W Q B1 nd e1 B1' nd' e1' S C v a g n u A2 k e2 t wx hx SZ.out hi hy (by omega))
   have RO:=Lh (fun wx hx hy=>rorderly12_any P T A M W Q D nd d D' nd' d' S C v a g n u B k c t wx hx SZ.out hi hy (by omega))
   unfold PlanOutB at PC
   unfold PlanOut12 at RC
   obtain ⟨m2,hm2⟩:∃ y,y=cmO P T A M W Q S C ⟨(v,a,g),n,u,t⟩ b:=⟨_,rfl⟩
   obtain ⟨L2,hL2⟩:∃ y,y=cmL P T A M W Q S C ⟨(v,a,g),n,u,t⟩ b:=⟨_,rfl⟩
   obtain ⟨E2,hE2⟩:∃ y,y=cmE P T A M W Q S C ⟨(v,a,g),n,u,t⟩ b:=⟨_,rfl⟩
   obtain ⟨OB,hOB⟩:∃ y,y=orB P T A M W Q S C ⟨(v,a,g),n,u,t⟩:=⟨_,rfl⟩
   obtain ⟨OE,hOE⟩:∃ y,y=boE P T A M W Q S C ⟨(v,a,g),n,u,t⟩:=⟨_,rfl⟩
   have hs20:(cmL P T A M W Q S C ⟨(v,a,g),n,u,t⟩ b).length≤20:=cmL_small
   rw [← hm2,← hL2,← hE2] at PC RC
   rw [← hL2] at hs20
   rw [← hOB,← hOE] at PR RO
   clear hm2 hL2 hE2 hOB hOE htl
   obtain ⟨⟨V1,V2,V3⟩,V4,V5,tv⟩:=m2
   dsimp only at PC RC
   obtain ⟨nv,hnv⟩:∃ y,y=tv.length:=⟨_,rfl⟩
   obtain ⟨nl,hnl⟩:∃ y,y=L2.length:=⟨_,rfl⟩
   rw [← hnv] at PC RC
   rw [← hnl] at PC RC
   clear hnv
   rw [← hnl] at hs20
   have HNL:=Lh hnl
   have HNS:=Lh hs20
   clear hnl hs20
   have KP:=Lh (And.intro BB.out (And.intro X.out (And.intro NB.out (And.intro BD.out (And.intro BM.out (And.intro DO.out (And.intro RM.out NO.out)))))))
   have D4:=Lh (Below.refl w4.heap.size w4)
   obtain ⟨⟨X_0,X_1,X_2,X_3,X_4,X_5,X_6,X_7⟩,X_8,X_9,X_10,X_11,X_12,X_13⟩:=X.out.cells
   obtain ⟨BD_0,BD_1⟩:=BD.out.two_
   obtain ⟨BM_0,BM_1,BM_2,BM_3,BM_4,BM_5⟩:=BM.out.met
   go_wp2_with fail
   clear X_0 X_1 X_2 X_3 X_4 X_5 X_6 X_7 X_8 X_9 X_10 X_11 X_12 X_13 BD_0 BD_1 BM_0 BM_1 BM_2 BM_3 BM_4 BM_5
   refine (PC.out _ (Dsk.of_own DO.out) (Recs.of_own RM.out) NO.out).mono ?_
   rintro e v1 ⟨A5,x5,A6,x6,rfl,hown,hacts,hb⟩
   obtain ⟨hY,hk⟩:=met_box v1 V1 V2 V3 V4 V5 A5 nv x5
   have hb0:=hb
   replace hb:=hb.trans (hk.mono hb.size)
   have BB:=Lh (BB.out.trans (hb.mono BB.out.size))
   have D4:=Lh (D4.out.trans (hb.mono D4.out.size))
   have X:=Lh (X.out.below hb)
   have NB:=Lh (NB.out.below hb)
   have BD:=Lh (BD.out.below hb BD.out.lt)
   have BM:=Lh (BM.out.below hb BM.out.lt)
   have DO:=Lh (DO.out.below hb)
   have RM:=Lh (RM.out.below hb)
   have NT:=Lh (NT.out.below hb)
   have NO:=Lh (NO.out.below hb)
   have R5:=Lh ((Recs.of_own hown).below hk)
   have AC5:=Lh (hacts.below hk)
   have AL5:=Lh (BB.out.size)
   have Y5:=Lh hY
   clear hY hk hb0
   clear hb hown hacts PC
   obtain ⟨⟨X_0,X_1,X_2,X_3,X_4,X_5,X_6,X_7⟩,X_8,X_9,X_10,X_11,X_12,X_13⟩:=X.out.cells
   obtain ⟨BD_0,BD_1⟩:=BD.out.two_
   obtain ⟨BM_0,BM_1,BM_2,BM_3,BM_4,BM_5⟩:=BM.out.met
   go_wp2_with fail
   clear X_0 X_1 X_2 X_3 X_4 X_5 X_6 X_7 X_8 X_9 X_10 X_11 X_12 X_13 BD_0 BD_1 BM_0 BM_1 BM_2 BM_3 BM_4 BM_5
   obtain ⟨v2,hv2⟩:∃ y,y=v1.alloc (.cells #[.int .u32 V1,.int .i64 V2,.int .u64 V3,.int .i64 V4,.int .i64 V5,.slice A5 nv x5] 32):=⟨_,rfl⟩
   rw [← hv2] at BB D4 X NB BD BM DO RM NT NO R5 AC5 Y5 ⊢
   clear hv2
   refine (RC.out _ X.out.two.dsk.dsk X.out.tab NB.out).mono ?_
   rintro e v3 ⟨A7,x7,A8,x8,L8,rfl,hown,hoA,hax,hb⟩
   obtain ⟨hY,hk⟩:=met_box v3 V1 V2 V3 V4 V5 A7 nv x7
   have hb0:=hb
   replace hb:=hb.trans (hk.mono hb.size)
   have BB:=Lh (BB.out.trans (hb.mono BB.out.size))
   have D4:=Lh (D4.out.trans (hb.mono D4.out.size))
   have X:=Lh (X.out.below hb)
   have NB:=Lh (NB.out.below hb)
   have BD:=Lh (BD.out.below hb BD.out.lt)
   have BM:=Lh (BM.out.below hb BM.out.lt)
   have DO:=Lh (DO.out.below hb)
   have RM:=Lh (RM.out.below hb)
   have NT:=Lh (NT.out.below hb)
   have NO:=Lh (NO.out.below hb)
   have R5:=Lh (R5.out.below hb)
   have AC5:=Lh (AC5.out.below hb)
   have Y5:=Lh (Y5.out.below hb Y5.out.lt)
   have R7:=Lh ((Recs.of_own hown).below hk)
   have AC7:=Lh (hoA.below hk)
   have AX7:=Lh (hax.below hk)
   have Y7:=Lh hY
   clear hY hk hb0
   clear hb hown hoA hax RC
   obtain ⟨⟨X_0,X_1,X_2,X_3,X_4,X_5,X_6,X_7⟩,X_8,X_9,X_10,X_11,X_12,X_13⟩:=X.out.cells
   obtain ⟨BD_0,BD_1⟩:=BD.out.two_
   obtain ⟨BM_0,BM_1,BM_2,BM_3,BM_4,BM_5⟩:=BM.out.met
   go_wp2_with fail
   clear X_0 X_1 X_2 X_3 X_4 X_5 X_6 X_7 X_8 X_9 X_10 X_11 X_12 X_13 BD_0 BD_1 BM_0 BM_1 BM_2 BM_3 BM_4 BM_5
   obtain ⟨v4,hv4⟩:∃ y,y=v3.alloc (.cells #[.int .u32 V1,.int .i64 V2,.int .u64 V3,.int .i64 V4,.int .i64 V5,.slice A7 nv x7] 32):=⟨_,rfl⟩
   rw [← hv4] at BB D4 X NB BD BM DO RM NT NO R5 AC5 Y5 R7 AC7 AX7 Y7 ⊢
   clear hv4
   refine (PR.out _ (Dsk.of_own DO.out) (Recs.of_own RM.out)).mono ?_
   rintro e v5 ⟨rfl,hb⟩
   have BB:=Lh (BB.out.trans (hb.mono BB.out.size))
   have D4:=Lh (D4.out.trans (hb.mono D4.out.size))
   have X:=Lh (X.out.below hb)
   have NB:=Lh (NB.out.below hb)
   have BD:=Lh (BD.out.below hb BD.out.lt)
   have BM:=Lh (BM.out.below hb BM.out.lt)
   have DO:=Lh (DO.out.below hb)
   have RM:=Lh (RM.out.below hb)
   have NT:=Lh (NT.out.below hb)
   have NO:=Lh (NO.out.below hb)
   have R5:=Lh (R5.out.below hb)
   have AC5:=Lh (AC5.out.below hb)
   have Y5:=Lh (Y5.out.below hb Y5.out.lt)
   have R7:=Lh (R7.out.below hb)
   have AC7:=Lh (AC7.out.below hb)
   have AX7:=Lh (AX7.out.below hb)
   have Y7:=Lh (Y7.out.below hb Y7.out.lt)
   clear hb PR
   obtain ⟨⟨X_0,X_1,X_2,X_3,X_4,X_5,X_6,X_7⟩,X_8,X_9,X_10,X_11,X_12,X_13⟩:=X.out.cells
   obtain ⟨BD_0,BD_1⟩:=BD.out.two_
   obtain ⟨BM_0,BM_1,BM_2,BM_3,BM_4,BM_5⟩:=BM.out.met
   go_wp2_with fail
   clear X_0 X_1 X_2 X_3 X_4 X_5 X_6 X_7 X_8 X_9 X_10 X_11 X_12 X_13 BD_0 BD_1 BM_0 BM_1 BM_2 BM_3 BM_4 BM_5
   refine (RO.out _ X.out.two.dsk.dsk X.out.tab).mono ?_
   rintro e v6 ⟨rfl,hb⟩
   have BB:=Lh (BB.out.trans (hb.mono BB.out.size))
   have D4:=Lh (D4.out.trans (hb.mono D4.out.size))
   have X:=Lh (X.out.below hb)
   have NB:=Lh (NB.out.below hb)
   have BD:=Lh (BD.out.below hb BD.out.lt)
   have BM:=Lh (BM.out.below hb BM.out.lt)
   have DO:=Lh (DO.out.below hb)
   have RM:=Lh (RM.out.below hb)
   have NT:=Lh (NT.out.below hb)
   have NO:=Lh (NO.out.below hb)
   have R5:=Lh (R5.out.below hb)
   have AC5:=Lh (AC5.out.below hb)
   have Y5:=Lh (Y5.out.below hb Y5.out.lt)
   have R7:=Lh (R7.out.below hb)
   have AC7:=Lh (AC7.out.below hb)
   have AX7:=Lh (AX7.out.below hb)
   have Y7:=Lh (Y7.out.below hb Y7.out.lt)
   clear hb RO
   obtain ⟨Y5_0,Y5_1,Y5_2,Y5_3,Y5_4,Y5_5⟩:=Y5.out.met
   obtain ⟨Y7_0,Y7_1,Y7_2,Y7_3,Y7_4,Y7_5⟩:=Y7.out.met
   clear BB X NB BD BM DO RM NT NO
   go_wp2_with fail
   clear Y5_0 Y5_1 Y5_2 Y5_3 Y5_4 Y5_5 Y7_0 Y7_1 Y7_2 Y7_3 Y7_4 Y7_5
   refine (same12_yes V1 V2 V3 V4 V5 A5 nv x5 A7 x7 tv _ R5.out R7.out).mono ?_
   rintro e v7 ⟨rfl,hb⟩
   have D4:=Lh (D4.out.trans (hb.mono D4.out.size))
   have R5:=Lh (R5.out.below hb)
   have AC5:=Lh (AC5.out.below hb)
   have Y5:=Lh (Y5.out.below hb Y5.out.lt)
   have R7:=Lh (R7.out.below hb)
   have AC7:=Lh (AC7.out.below hb)
   have AX7:=Lh (AX7.out.below hb)
   have Y7:=Lh (Y7.out.below hb Y7.out.lt)
   clear hb
   go_wp2_with fail
   obtain ⟨LA,hoa,hax⟩:=AC5.out.is
   refine (rsamea_yes A6 nl x6 _ LA A8 x8 _ L8 L2 _ hoa hax AC7.out AX7.out (by have:=HNS.out;omega)).mono ?_
   rintro e v8 ⟨rfl,hb⟩
   have D4:=Lh (D4.out.trans (hb.mono D4.out.size))
   have R5:=Lh (R5.out.below hb)
   have AC5:=Lh (AC5.out.below hb)
   have Y5:=Lh (Y5.out.below hb Y5.out.lt)
   have R7:=Lh (R7.out.below hb)
   have AC7:=Lh (AC7.out.below hb)
   have AX7:=Lh (AX7.out.below hb)
   have Y7:=Lh (Y7.out.below hb Y7.out.lt)
   clear hb hoa hax
   clear AC7 AX7 R5 R7 Y5 Y7
   have hn20:=HNS.out
   go_wp2
   go_loopw [23] (fun x wr=>∃ i:Nat,i≤nl∧x=.int .i64 i∧(∃ l',OwnActs wr w4.heap.size A6 nl x6 l'∧∀ j,(l'.getD j (0,0,[])).2.2.length=(L2.getD j (0,0,[])).2.2.length)∧Below w4.heap.size w4 wr) (fun x _=>nl - (intOf x).toNat)
   case atStart=>exact ⟨0,Nat.zero_le _,rfl,⟨L2,AC5.out,fun _=>rfl⟩,D4.out⟩
   case round =>
    obtain ⟨i,hi,rfl,⟨L1,hp,hm⟩,hb1⟩:=hrel
    by_cases hin:i < nl
    ·obtain ⟨T9,hT⟩:∃ x,x=(L2.getD i (0,0,[])).2.2.length:=⟨_,rfl⟩
     have hT9:T9≤9223372036854775807:=by
      obtain ⟨_,_,_,_,_,_,_,_,r1,r2,r3⟩:=hp.row hin
      rw [hm i,← hT] at r1
      unfold maxLen at r3
      omega
     have hi1:(i:Int) < (nl:Int):=by omega
     have HT:=Lh hT
     have P1:=Lh hp
     have M1:=Lh hm
     have B1:=Lh hb1
     clear hp hm hb1 hT
     go_wp2
     go_loopw [24] (fun x wx=>∃ kk:Nat,kk≤T9∧x=.int .i64 kk∧(∃ l',OwnActs wx w4.heap.size A6 nl x6 l'∧∀ j,(l'.getD j (0,0,[])).2.2.length=(L2.getD j (0,0,[])).2.2.length)∧Below w4.heap.size w4 wx) (fun x _=>T9 - (intOf x).toNat)
     case atStart=>exact ⟨0,Nat.zero_le _,rfl,⟨L1,P1.out,M1.out⟩,B1.out⟩
     case round =>
      obtain ⟨kk,hk,rfl,⟨L3,hp,hm⟩,hb⟩:=hrel
      obtain ⟨gA,Ai,ni,ci,hgA,_,hcA,hro,hln,hci,hcm⟩:=hp.row hin
      subst hgA
      rw [hm i,← HT.out] at hln
      subst hln
      unfold maxLen at hcm
      by_cases hkL:kk < T9
      ·obtain ⟨g9,o9,rfl,hbg,hu,hcg,hfg⟩:=hro.at_ hkL
       have hbyte:isByte ((L3.getD i (0,0,[])).2.2.getD kk 0):=hp.byte _ (by rw [gtD,geE (by rw [hp.len];exact hin)];exact List.getElem_mem _) _ (getD_mem _ kk (by have:=hro.1;omega))
       obtain ⟨x,hxx⟩:∃ x,x=(L3.getD i (0,0,[])).2.2.getD kk 0:=⟨_,rfl⟩
       rw [← hxx] at hcg hbyte
       have hx0:0≤x:=hbyte.1
       have hx1:x < 256:=hbyte.2
       obtain ⟨L4,hP3,hM3⟩:=hp.touch hu (o9 + kk) (z:=(x + 1) % 256) ⟨by omega,by omega⟩
       have P3:=Lh hP3
       have M3:=Lh (fun j=>(hM3 j).trans (hm j))
       have B3:=Lh (hb.setCell (p:=⟨g9,o9 + kk,none⟩) hbg (.int .u8 ((x + 1) % 256)))
       have hw1:IntKind.i64.wrap (i:Int)=(i:Int):=Lib.wrap_i64_small i (by omega)
       have hw2:IntKind.i64.wrap (kk:Int)=(kk:Int):=Lib.wrap_i64_small kk (by omega)
       have hk1:(kk:Int) < (T9:Int):=by omega
       clear hxx hbyte hp hm hb hro hu hP3 hM3
       go_wp2
       refine wp_region_still_tail 16 (by kernel_rfl) (by kernel_rfl) ?_
       simp only [List.take_succ_cons,List.take_zero,List.drop_succ_cons,List.drop_zero]
       repeat still_step
       try refine wpStill_nil ?_
       change wpList _ _ _ _ _ wr.drew
       go_wp2
       go_roundw
       case rel =>
        refine ⟨kk + 1,by omega,by go_num,⟨L4,?_,M3.out⟩,?_⟩
        ·exact (show OwnActs (wr.setCell ⟨g9,o9 + kk,none⟩ (.int .u8 ((x + 1) % 256))).drew _ _ nl x6 L4 from P3.out.below (below_drewN (Below.refl _ _) 1))
        ·exact (show Below _ w4 (wr.setCell ⟨g9,o9 + kk,none⟩ (.int .u8 ((x + 1) % 256))).drew from below_drewN B3.out 1)
       case measure=>simp [intOf];omega
      ·obtain rfl:kk=T9:=by omega
       have P2:=Lh hp
       have M2:=Lh hm
       have B2:=Lh hb
       clear hp hm hb hro
       go_wp2
       go_roundw
       case rel=>exact ⟨i + 1,by omega,by go_num,⟨L3,P2.out,M2.out⟩,B2.out⟩
       case measure=>simp [intOf];omega
    ·obtain rfl:i=nl:=by omega
     obtain ⟨kBB,kX,kNB,kBD,kBM,kDO,kRM,kNO⟩:=KP.out
     have BB:=Lh (kBB.trans (hb1.mono kBB.size))
     have X:=Lh (kX.below hb1)
     have NB:=Lh (kNB.below hb1)
     have BD:=Lh (kBD.below hb1 kBD.lt)
     have BM:=Lh (kBM.below hb1 kBM.lt)
     have DO:=Lh (kDO.below hb1)
     have RM:=Lh (kRM.below hb1)
     have NO:=Lh (kNO.below hb1)
     clear hp hm hb1 kBB kX kNB kBD kBM kDO kRM kNO
     obtain ⟨⟨X_0,X_1,X_2,X_3,X_4,X_5,X_6,X_7⟩,X_8,X_9,X_10,X_11,X_12,X_13⟩:=X.out.cells
     obtain ⟨BD_0,BD_1⟩:=BD.out.two_
     obtain ⟨BM_0,BM_1,BM_2,BM_3,BM_4,BM_5⟩:=BM.out.met
     go_wp2_with fail
     clear X_0 X_1 X_2 X_3 X_4 X_5 X_6 X_7 X_8 X_9 X_10 X_11 X_12 X_13 BD_0 BD_1 BM_0 BM_1 BM_2 BM_3 BM_4 BM_5
     refine (same_yes B1 nd e1 B1' nd' e1' S C D nd d D' nd' d' _ (Dsk.of_own DO.out) X.out.two.dsk.dsk).mono ?_
     rintro e v1 ⟨rfl,hb⟩
     have BB:=Lh (BB.out.trans (hb.mono BB.out.size))
     have X:=Lh (X.out.below hb)
     have NB:=Lh (NB.out.below hb)
     have BD:=Lh (BD.out.below hb BD.out.lt)
     have DO:=Lh (DO.out.below hb)
     have BM:=Lh (BM.out.below hb BM.out.lt)
     have RM:=Lh (RM.out.below hb)
     have NO:=Lh (NO.out.below hb)
     clear hb
     obtain ⟨⟨X_0,X_1,X_2,X_3,X_4,X_5,X_6,X_7⟩,X_8,X_9,X_10,X_11,X_12,X_13⟩:=X.out.cells
     obtain ⟨BM_0,BM_1,BM_2,BM_3,BM_4,BM_5⟩:=BM.out.met
     go_wp2_with fail
     clear X_0 X_1 X_2 X_3 X_4 X_5 X_6 X_7 X_8 X_9 X_10 X_11 X_12 X_13 BM_0 BM_1 BM_2 BM_3 BM_4 BM_5
     refine (same12_yes v a g n u A2 k e2 B c t _ (Recs.of_own RM.out) X.out.tab).mono ?_
     rintro e v2 ⟨rfl,hb⟩
     have BB:=Lh (BB.out.trans (hb.mono BB.out.size))
     have X:=Lh (X.out.below hb)
     have NB:=Lh (NB.out.below hb)
     have BD:=Lh (BD.out.below hb BD.out.lt)
     have DO:=Lh (DO.out.below hb)
     have BM:=Lh (BM.out.below hb BM.out.lt)
     have RM:=Lh (RM.out.below hb)
     have NO:=Lh (NO.out.below hb)
     clear hb
     have s1:=str_arg NO.out
     have s2:=str_arg NB.out
     go_wp2
     go_ret
     exact ⟨rfl,BB.out⟩
end Go.Proofs.YtifgcfepbenpjaaGreat
