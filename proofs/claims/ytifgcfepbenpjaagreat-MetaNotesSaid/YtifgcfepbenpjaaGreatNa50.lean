/- Texts of layers 1 to 12, joined. -/
import Derived.Test.YtifgcfepbenpjaaGreatNa49
set_option maxRecDepth 100000
set_option maxHeartbeats 12800000
set_option linter.unusedVariables false
namespace Go.Proofs.YtifgcfepbenpjaaGreat
open Go.RowKit
theorem rcommit_room (P T A M W Q:Int) (D:Option Addr) (nd d:Nat) (D':Option Addr) (nd' d':Nat) (S:List Sec) (C:List Pnd) (v a g n u:Int) (B:Option Addr) (k c:Nat) (t:List Rc) (Ab:Option Addr) (nb cb:Nat) (b:Txt) (w:World) (hq:Dsk w D nd d D' nd' d' S C) (hs:SmallD S C) (ht:Recs w B k c t) (hk:k≤100000) (hb:Arg w .u8 Ab nb cb b) (hby:∀ z ∈ b,isByte z)
  (h0:boE P T A M W Q S C ⟨(v,a,g),n,u,t⟩=0) (h4:ansE (putR t b)=0) (hn:n < A) (m':Mt) (l':List Ac) (kt:Nat) (hkt:m'.t.length=kt) (nl:Nat) (hnl:l'.length=nl) (hO:cmM A ⟨(v,a,g),n,u,t⟩ (ansL (putR t b))=m') (hL:cmA P T A M W Q S C ⟨(v,a,g),n,u,t⟩ b (ansL (putR t b))=l')
  (hNO:∀ wx,Dsk wx D nd d D' nd' d' S C→Recs wx B k c t→Arg wx .u8 Ab nb cb b→Calls Tryz.prog 57 #[cfgV P T A M W Q,diskV D nd d D' nd' d',metV v a g n u B k c,.slice Ab nb cb] wx (NoteOut wx m' l')) :
  Calls Tryz.prog 27 #[cfgV P T A M W Q,diskV D nd d D' nd' d',metV v a g n u B k c,.slice Ab nb cb] w (PlanOut12 w (cmO P T A M W Q S C ⟨(v,a,g),n,u,t⟩ b) (cmL P T A M W Q S C ⟨(v,a,g),n,u,t⟩ b) (cmE P T A M W Q S C ⟨(v,a,g),n,u,t⟩ b)):=by
 obtain ⟨x,hbel⟩:=MBox.new P T A M W Q v a g n u hq ht
 obtain ⟨z,h2⟩:=met_box (((w.alloc (.cells #[.int .i64 P,.int .i64 T,.int .i64 A,.int .i64 M,.int .i64 W,.int .i64 Q] 36)).alloc (.cells #[.slice D nd d,.slice D' nd' d'] 25)).alloc (.cells #[.int .u32 v,.int .i64 a,.int .u64 g,.int .i64 n,.int .i64 u,.slice B k c] 32)) 0 0 0 0 0 none 0 0
 rw [World.size_alloc,World.size_alloc,World.size_alloc] at z
 have x:=x.below h2
 obtain ⟨w0,hw0⟩:∃ x:World,x=((((w.alloc (.cells #[.int .i64 P,.int .i64 T,.int .i64 A,.int .i64 M,.int .i64 W,.int .i64 Q] 36)).alloc (.cells #[.slice D nd d,.slice D' nd' d'] 25)).alloc (.cells #[.int .u32 v,.int .i64 a,.int .u64 g,.int .i64 n,.int .i64 u,.slice B k c] 32)).alloc (.cells #[.int .u32 0,.int .i64 0,.int .u64 0,.int .i64 0,.int .i64 0,.slice none 0 0] 32)):=⟨_,rfl⟩
 rw [← hw0] at x z h2
 have X:=Lh x
 have Z:=Lh z
 have BB:=Lh (hbel.trans (h2.mono hbel.size))
 have BO:=Lh (fun wx hx hy=>rboth12_any P T A M W Q v a g n u D nd d D' nd' d' S C B k c t wx hx hs hy hk)
 obtain ⟨⟨c0,c1,c2,c3,c4,c5,c6,c7⟩,d0,d1,d2,d3,d4,d5⟩:=x.cells
 clear x z h2 hbel
 have hE:cmE P T A M W Q S C ⟨(v,a,g),n,u,t⟩ b=0:=by
  unfold cmE cmE0
  rw [if_pos h0,if_pos h4]
  exact if_pos hn
 unfold cmO cmL
 rw [hE,if_pos rfl,if_pos rfl]
 dsimp only
 rw [hO,hL]
 obtain ⟨⟨v1,a1,g1⟩,n1,u1,t1⟩:=m'
 unfold NoteOut at hNO
 unfold PlanOut12
 dsimp only at hNO hkt ⊢
 rw [hkt,hnl] at hNO ⊢
 have NO:=Lh hNO
 have hnA:¬ A≤n:=by omega
 have PB:=Lh (hb.below BB.out)
 have PU:=Lh (fun wx hx hy=>rput11_any B k c t Ab nb cb b wx hx hk hy hby)
 unfold PutOut at PU
 rw [h4] at PU
 rw [h0] at BO
 clear hE h0 h4 hNO hO hL hkt hnl hq hs ht hk hb hby
 go_enter Tryz.func27,Tryz.ntmps27
 go_wp2_with fail
 rw [← hw0]
 clear hw0
 refine (BO.out _ X.out.two.dsk.dsk X.out.tab).mono ?_
 rintro e1 w1 ⟨rfl,hb⟩
 have BB:=Lh (BB.out.trans (hb.mono BB.out.size))
 have X:=Lh (X.out.below hb)
 have Z:=Lh (Z.out.below hb Z.out.lt)
 have PB:=Lh (PB.out.below hb)
 clear hb BO c0 c1 c2 c3 c4 c5 c6 c7 d0 d1 d2 d3 d4 d5
 obtain ⟨⟨c0,c1,c2,c3,c4,c5,c6,c7⟩,d0,d1,d2,d3,d4,d5⟩:=X.out.cells
 go_wp2_with fail
 refine (PU.out _ X.out.tab PB.out).mono ?_
 rintro e1 w2 ⟨A2,x2,rfl,hown,hb⟩
 have BB:=Lh (BB.out.trans (hb.mono BB.out.size))
 have X:=Lh (X.out.below hb)
 have Z:=Lh (Z.out.below hb Z.out.lt)
 have PB:=Lh (PB.out.below hb)
 clear hb hown PU c0 c1 c2 c3 c4 c5 c6 c7 d0 d1 d2 d3 d4 d5
 obtain ⟨⟨c0,c1,c2,c3,c4,c5,c6,c7⟩,d0,d1,d2,d3,d4,d5⟩:=X.out.cells
 go_wp2_with fail
 refine (NO.out _ X.out.two.dsk.dsk X.out.tab PB.out).mono ?_
 rintro e w3 ⟨A1,x1,A3,x3,L3,rfl,hown,hoA,hax,hb⟩
 have G1:=Lh Z.out.lt
 have S1:=Lh BB.out.size
 obtain ⟨y,hk1⟩:=met_box w3 v1 a1 g1 n1 u1 A1 kt x1
 have BB:=Lh ((BB.out.trans (hb.mono BB.out.size)).trans (hk1.mono (BB.out.trans (hb.mono BB.out.size)).size))
 have Z:=Lh ((Z.out.below hb Z.out.lt).below hk1 (Nat.lt_of_lt_of_le Z.out.lt hb.size))
 have O:=Lh (hown.below hk1)
 have OA:=Lh (hoA.below hk1)
 have AX:=Lh (hax.below hk1)
 clear hown hoA hax hb hk1 NO c0 c1 c2 c3 c4 c5 c6 c7 d0 d1 d2 d3 d4 d5
 obtain ⟨y0,y1,y2,y3,y4,y5⟩:=y.met
 clear y
 have fz:=Z.out.free
 obtain ⟨e0,e1,e2,e3,e4,e5⟩:=Z.out.met
 go_wp2
 obtain ⟨z0,z1,z2,z3,z4,z5⟩:=(Z.out.sixM v1 a1 g1 n1 u1 A1 kt x1).met
 refine bodyPost_ret (v:=.tuple #[metV v1 a1 g1 n1 u1 A1 kt x1,.slice A3 nl x3,.int .i64 0]) ?_ rfl ⟨A1,x1,A3,x3,L3,rfl,OwnRecs.lower (OwnRecs.sixM O.out (G:=w.heap.size + 1 + 1 + 1) G1.out v1 a1 g1 n1 u1 A1 kt x1) S1.out,OwnAcs.lower ((((((OA.out.away G1.out 0 _).away G1.out 1 _).away G1.out 2 _).away G1.out 3 _).away G1.out 4 _).away G1.out 5 _) S1.out,⟨AX.out.1,fun i hi=>⟨(AX.out.2 i hi).1,(AX.out.2 i hi).2.1,Arg.offM Z.out (grown_six _ _ _ _ _ _ _ _ _ _) (AX.out.2 i hi).2.2⟩⟩,below_sixM BB.out (by omega) v1 a1 g1 n1 u1 A1 kt x1⟩
 clear fz e0 e1 e2 e3 e4 e5 y0 y1 y2 y3 y4 y5
 simp [results,Tryz.f27,go_sem,z0,z1,z2,z3,z4,z5]
theorem txt_grown {w w':World} {b base n c m d:Nat} {A A':Option Addr} {L:List Ax} {zs:Txt} (h:OwnTxt w base A n c zs) (ha:OwnAcs w b A' m d L) (hg:w.grownBy w' (Value.slice A' m d).ownBlock):OwnTxt w' base A n c zs :=
 h.keep fun g _ hu=>hg.block g hu.lt fun e=>u8_row (by decide) hu ha.1 e.symm
theorem ax_left {L M:List Ax} {i:Nat} (h:i < L.length):(L ++ M).getD i zAx=L.getD i zAx:=by
 rw [gtD,List.getElem?_append_left h,← gtD]
theorem ax_right {L M:List Ax} {i:Nat} (h:L.length≤i):(L ++ M).getD i zAx=M.getD (i - L.length) zAx:=by
 rw [gtD,List.getElem?_append_right h,← gtD]
theorem ac_left {L M:List Ac} {i:Nat} (h:i < L.length):(L ++ M).getD i (0,0,[])=L.getD i (0,0,[]):=by
 rw [gtD,List.getElem?_append_left h,← gtD]
theorem ac_right {L M:List Ac} {i:Nat} (h:L.length≤i):(L ++ M).getD i (0,0,[])=M.getD (i - L.length) (0,0,[]):=by
 rw [gtD,List.getElem?_append_right h,← gtD]
theorem acts_joined {w w':World} {base:Nat} {A A':Option Addr} {n c n1 c':Nat} {L L1:List Ax} {l l1:List Ac} (h:OwnAcs w base A n c L) (h2:l.length=n) (h3:∀ a ∈ l,∀ z ∈ a.2.2,isByte z)
  (h4:∀ i,i < n→(L.getD i zAx).1=(l.getD i (0,0,[])).1∧(L.getD i zAx).2.1=(l.getD i (0,0,[])).2.1∧OwnTxt w base (L.getD i zAx).2.2.1 (L.getD i zAx).2.2.2.1 (L.getD i zAx).2.2.2.2 (l.getD i (0,0,[])).2.2)
  (hl1:L1.length=n1) (g2:l1.length=n1) (g3:∀ a ∈ l1,∀ z ∈ a.2.2,isByte z)
  (g4:∀ i,i < n1→(L1.getD i zAx).1=(l1.getD i (0,0,[])).1∧(L1.getD i zAx).2.1=(l1.getD i (0,0,[])).2.1∧OwnTxt w base (L1.getD i zAx).2.2.1 (L1.getD i zAx).2.2.2.1 (L1.getD i zAx).2.2.2.2 (l1.getD i (0,0,[])).2.2)
  (ho:OwnAcs w' base A' (n + n1) c' (L ++ L1)) (hg:w.grownBy w' (Value.slice A n c).ownBlock):OwnActs w' base A' (n + n1) c' (l ++ l1):=by
 refine ⟨L ++ L1,ho,by rw [List.length_append];omega,fun a ha=>?_,fun i hi=>?_⟩
 ·rcases List.mem_append.1 ha with k | k
  ·exact h3 a k
  ·exact g3 a k
 ·by_cases hin:i < n
  ·rw [ax_left (by rw [h.2];exact hin),ac_left (by omega)]
   exact ⟨(h4 i hin).1,(h4 i hin).2.1,txt_grown (h4 i hin).2.2 h hg⟩
  ·rw [ax_right (by rw [h.2];omega),ac_right (by omega),h.2,h2]
   have k:=g4 (i - n) (by omega)
   exact ⟨k.1,k.2.1,txt_grown k.2.2 h hg⟩
theorem run_acts_more (w:World) (ty:TypeId) (base:Nat) (A0:Option Addr) (n0 c0:Nat) (l:List Ac) (hown:OwnActs w base A0 n0 c0 l) (A1:Option Addr) (n1 c1:Nat) (l1:List Ac) (h1:OwnActs w base A1 n1 c1 l1) (hn1:1≤n1) (h63:n0 + n1≤100000) (hwb:base≤w.heap.size) (Bd:Nat) (hBd:Bd≤w.heap.size) (hbl:∀ g,(Value.slice A0 n0 c0).ownBlock=some g→Bd≤g) :
  ∃ A' c' w',(Builtin.append_ #[38,38] ty #[.slice A0 n0 c0,.slice A1 n1 c1]).run Tryz.prog w=.ok (.slice A' (n0 + n1) c') w'∧OwnActs w' base A' (n0 + n1) c' (l ++ l1)∧Below Bd w w':=by
 obtain ⟨L,a1,a2,a3,a4⟩:=hown
 obtain ⟨L1,b1,b2,b3,b4⟩:=h1
 obtain ⟨A',c',w',r1,r2,r3⟩:=run_acs_more w ty A0 n0 c0 L a1 A1 n1 c1 L1 base b1 hn1 h63 hwb
 exact ⟨A',c',w',r1,acts_joined a1 a2 a3 a4 b1.2 b2 b3 b4 r2 r3,(Below.refl Bd w).grown r3 hBd hbl⟩
theorem step_acts (w:World) {ops:Array Oper} {o:Oper} {a:Act} {K:Act→World→Prop} {Q:Exit→Act→World→Prop} {E:Prop} (hgd:o.guard=none) (s y:Operand)
  (ho:o.op=.call { callee:=.builtin .append,args:=#[s,y],argTypes:=#[38,38] }) (base:Nat) (A0:Option Addr) (n0 c0:Nat) (l:List Ac) (hs:a.eval s=.slice A0 n0 c0) (hown:OwnActs w base A0 n0 c0 l)
  (A1:Option Addr) (n1 c1:Nat) (l1:List Ac) (hy:a.eval y=.slice A1 n1 c1) (h1:OwnActs w base A1 n1 c1 l1) (hn1:1≤n1) (h63:n0 + n1≤100000) (hwb:base≤w.heap.size) (Bd:Nat) (hBd:Bd≤w.heap.size) (hbl:∀ g,(Value.slice A0 n0 c0).ownBlock=some g→Bd≤g)
  (h:∀ A' c' w',OwnActs w' base A' (n0 + n1) c' (l ++ l1)→Below Bd w w'→K (a.put o.dst (.slice A' (n0 + n1) c')) w') :
  if Region.wanted o (yielded ops a.tmps)=true then Oper.wp Tryz.prog o a w K Q else E:=by
 have hw:Region.wanted o (yielded ops a.tmps)=true:=by simp [Region.wanted,hgd]
 rw [if_pos hw]
 obtain ⟨A',c',w',hrun,h2,h3⟩:=run_acts_more w o.type base A0 n0 c0 l hown A1 n1 c1 l1 h1 hn1 h63 hwb Bd hBd hbl
 unfold Oper.wp execOp
 simp only [ho,resolve,invoke,builtin,Sem.run_bind,Sem.run_pure,Result.andThen_ok,List.map_toArray,List.map_cons,List.map_nil,hs,hy,hrun]
 exact h A' c' w' h2 h3
theorem racts_own (A:Option Addr) (n c base:Nat) (ps:List Pnd) (w:World) (hp:OwnPnds w base A n c ps) (hn:n≤100) (hbw:base≤w.heap.size) :
  Calls Tryz.prog 93 #[.slice A n c] w fun e w'=>∃ A' c',e=.returned (.slice A' (n + 1) c')∧OwnActs w' base A' (n + 1) c' (actsA ps)∧(∀ g,(Value.slice A' (n + 1) c').ownBlock=some g→w.heap.size≤g)∧Below w.heap.size w w':=by
 have hcm:=Nat.le_trans (Pnds.of_own hp).cap (Pnds.of_own hp).max
 unfold maxLen at hcm
 have HP:=Lh hp
 have HBY:=Lh (fun i=>(Pnds.of_own hp).byte_at i)
 have hlen:=(Pnds.of_own hp).len
 have ST:=Lh (fun k (hk:k < n)=>wrA_snoc (ps:=ps) (k:=k) (by rw [hlen];exact hk))
 have FIN:=Lh (show wrA (ps.take n) ++ [(2,0,[])]=actsA ps by rw [← hlen,List.take_length];rfl)
 have WL:=Lh (fun k (hk:k≤n)=>(show (wrA (ps.take k)).length=k by unfold wrA;rw [List.length_map,List.length_take];omega))
 have HBW:=Lh hbw
 clear hp hlen hbw
 go_enter Tryz.func93,Tryz.ntmps93
 go_wp2
 go_loopw [3,4] (fun o i wr=>∃ (k:Nat) (A':Option Addr) (c':Nat) (L:List Ax),k≤n∧i=.int .i64 k∧o=.slice A' k c'∧OwnAcs wr w.heap.size A' k c' L∧(∀ a ∈ wrA (ps.take k),∀ z ∈ a.2.2,isByte z)∧(∀ i,i < k→(L.getD i zAx).1=((wrA (ps.take k)).getD i (0,0,[])).1∧(L.getD i zAx).2.1=((wrA (ps.take k)).getD i (0,0,[])).2.1∧OwnTxt w base (L.getD i zAx).2.2.1 (L.getD i zAx).2.2.2.1 (L.getD i zAx).2.2.2.2 ((wrA (ps.take k)).getD i (0,0,[])).2.2)∧Below w.heap.size w wr) (fun _ i _=>n - (intOf i).toNat)
 case atStart=>exact ⟨0,none,0,[],Nat.zero_le _,rfl,rfl,OwnAcs.nil _ _,(fun a ha=>by simp [wrA] at ha),fun i hi=>absurd hi (Nat.not_lt_zero _),Below.refl _ _⟩
 case round =>
  obtain ⟨k,A',c',L,hk,rfl,rfl,hown,hby,hin,hbw⟩:=hrel
  have OW:=Lh hown
  have BY:=Lh hby
  have IN:=Lh hin
  have BW:=Lh hbw
  have LK:=Lh (WL.out k hk)
  clear hown hby hin hbw
  by_cases hkn:k < n
  ·have hki:(k:Int) < (n:Int):=by omega
   obtain ⟨vs,hrow,_,_,hat⟩:=HP.out
   obtain ⟨Ai,ni,ci,e1,e2,htx⟩:=hat k hkn
   obtain ⟨b,e3,hlt,hc⟩:=owns_cell hrow e1
   obtain ⟨b',e4,_,hx⟩:=owns_cell hrow e2
   rw [e3] at e4
   cases e4
   subst e3
   have keepX:∀ wx,Below w.heap.size w wx→wx.cell? ⟨b,k * 2,none⟩=some (.int .i64 (ps.getD k (0,[])).1)∧wx.cell? ⟨b,k * 2 + 1,none⟩=some (.slice Ai ni ci):=fun wx hx'=>⟨(hx'.cell (p:=⟨b,k * 2,none⟩) hlt).trans hx,(hx'.cell (p:=⟨b,k * 2 + 1,none⟩) hlt).trans hc⟩
   have SK:=Lh (ST.out k hkn)
   have HB2:=Lh (HBY.out k)
   obtain ⟨x1,hx1⟩:∃ y,y=(ps.getD k (0,[])).1:=⟨_,rfl⟩
   obtain ⟨x2,hx2⟩:∃ y,y=(ps.getD k (0,[])).2:=⟨_,rfl⟩
   rw [← hx1] at keepX SK
   rw [← hx2] at htx SK HB2
   have HA:=Lh htx
   clear hc hx hx1 hx2 htx hlt hrow hat e1 e2
   have BD:=Lh (below_drewN BW.out 1)
   have OD:=Lh (OW.out.below (below_drewN (Below.refl _ _) 1))
   have HSZ:=Lh (Nat.le_refl w.heap.size)
   go_upto_region 5 with fail
   have hkX:=keepX _ BD.out
   go_region_held3 (fun w'=>w'.cell? ⟨b,k * 2,none⟩=some (.int .i64 x1)∧w'.cell? ⟨b,k * 2 + 1,none⟩=some (.slice Ai ni ci))
    (first | exact hkX | exact keepX _ (below_drewN (BW.out.alloc BW.out.size _) 1) | exact keepX _ (BD.out.alloc BD.out.size _) | go_keep)
    ((refine step_acs w wr.drew (by rfl) (.tmp 11) (.tmp 23) (by rfl) w.heap.size A' k c' L (by rfl) OD.out (1,x1,Ai,ni,ci) (by rfl) (by omega) BD.out HSZ.out ?_;intro A2 c2 w2 hown2 hbX;have hkX:=keepX w2 hbX))
   have O2:=Lh hown2
   have B2:=Lh hbX
   clear hown2 hbX keepX hkX
   go_wp2
   go_roundw
   case rel =>
    refine ⟨k + 1,A2,c2,L ++ [(1,x1,Ai,ni,ci)],by omega,by go_num,rfl,O2.out,?_,?_,B2.out⟩
    ·rw [SK.out]
     intro a ha
     rcases List.mem_append.1 ha with h | h
     ·exact BY.out a h
     ·rw [List.mem_singleton.1 h];exact HB2.out
    ·rw [SK.out]
     intro i hi
     by_cases hik:i < k
     ·rw [ax_left (by rw [OW.out.2];exact hik),ac_left (by rw [LK.out];exact hik)]
      exact IN.out i hik
     ·obtain rfl:i=k:=by omega
      rw [ax_right (by rw [OW.out.2];exact Nat.le_refl _),ac_right (by rw [LK.out];exact Nat.le_refl _),OW.out.2,LK.out,Nat.sub_self]
      exact ⟨rfl,rfl,HA.out⟩
   all_goals (try case measure=>simp [intOf];omega)
  ·obtain rfl:k=n:=by omega
   go_wp2_with (at_builtin;refine wpList_acs w wr rfl (.tmp 25) (.tmp 27) rfl w.heap.size A' k c' L rfl OW.out (2,0,none,0,0) rfl (by omega) BW.out (Nat.le_refl _) ?_;intro A2 c2 w2 hO2 hB2;have O2:=Lh hO2;have B2:=Lh hB2;clear hO2 hB2)
   go_ret
   refine ⟨A2,c2,rfl,⟨L ++ [(2,0,none,0,0)],O2.out.lower HBW.out,by rw [← FIN.out,List.length_append,LK.out];rfl,?_,?_⟩,fun g e=>(O2.out.1.lt g e).1,B2.out⟩
   ·rw [← FIN.out]
    intro a ha
    rcases List.mem_append.1 ha with h | h
    ·exact BY.out a h
    ·rw [List.mem_singleton.1 h];exact fun z hz=>absurd hz List.not_mem_nil
   ·rw [← FIN.out]
    intro i hi
    by_cases hik:i < k
    ·rw [ax_left (by rw [OW.out.2];exact hik),ac_left (by rw [LK.out];exact hik)]
     have q:=IN.out i hik
     exact ⟨q.1,q.2.1,q.2.2.below B2.out⟩
    ·obtain rfl:i=k:=by omega
     rw [ax_right (by rw [OW.out.2];exact Nat.le_refl _),ac_right (by rw [LK.out];exact Nat.le_refl _),OW.out.2,LK.out,Nat.sub_self]
     exact ⟨rfl,rfl,OwnTxt.nil _ _⟩
theorem OwnRecs.boxT {w:World} {base H:Nat} {A:Option Addr} {n c:Nat} {L:List Rc} {t:TypeId} {cs:List Value} (h:OwnRecs w base A n c L) (hb:Blk w H t cs) (ht:t≠64) (i:Nat) (u:Value):OwnRecs (w.setCell ⟨H,i,none⟩ u) base A n c L :=
 h.keep fun g cs' _ hc=>Below.heap_setCell w _ u g fun e2=>by
  have e3:g=H:=e2
  subst e3
  unfold Blk at hb
  rw [hb] at hc
  injection hc with hc
  injection hc with _ h2
  exact absurd h2 ht
theorem rnoted_anew (P T A M W Q:Int) (D:Option Addr) (nd d:Nat) (D':Option Addr) (nd' d':Nat) (S:List Sec) (C:List Pnd) (v a g n u:Int) (B:Option Addr) (k c:Nat) (t:List Rc) (Ab:Option Addr) (nb cb:Nat) (b:Txt) (w:World) (hq:Dsk w D nd d D' nd' d' S C) (hs:SmallD S C) (hmT:mayT P T A M W Q S C) (hi:isS (v,a,g)) (ha:0≤a∧a≤1) (hn:A≤n) (hu:0≤u∧u < 65535) (ht:Recs w B k c t) (hk:k≤100000) (hb:Arg w .u8 Ab nb cb b) (hnb:nb≤20) (hby:∀ z ∈ b,isByte z) (t':List Rc) (hp:putR t b=some t') (N:Int) (hN:N=65536 * v + u + 1) :
  Calls Tryz.prog 57 #[cfgV P T A M W Q,diskV D nd d D' nd' d',metV v a g n u B k c,.slice Ab nb cb] w (NoteOut w ⟨(v,1 - a,N),(t'.length:Int),u + 1,t'⟩ (actsA (rowsP A (1 - a) N t') ++ actsA (plP S C (v,1 - a,N)))):=by
 obtain ⟨xb,hbel⟩:=MBox.new P T A M W Q v a g n u hq ht
 obtain ⟨z,h2⟩:=met_box (((w.alloc (.cells #[.int .i64 P,.int .i64 T,.int .i64 A,.int .i64 M,.int .i64 W,.int .i64 Q] 36)).alloc (.cells #[.slice D nd d,.slice D' nd' d'] 25)).alloc (.cells #[.int .u32 v,.int .i64 a,.int .u64 g,.int .i64 n,.int .i64 u,.slice B k c] 32)) 0 0 0 0 0 none 0 0
 rw [World.size_alloc,World.size_alloc,World.size_alloc] at z
 have xb:=xb.below h2
 obtain ⟨w0,hw0⟩:∃ x:World,x=((((w.alloc (.cells #[.int .i64 P,.int .i64 T,.int .i64 A,.int .i64 M,.int .i64 W,.int .i64 Q] 36)).alloc (.cells #[.slice D nd d,.slice D' nd' d'] 25)).alloc (.cells #[.int .u32 v,.int .i64 a,.int .u64 g,.int .i64 n,.int .i64 u,.slice B k c] 32)).alloc (.cells #[.int .u32 0,.int .i64 0,.int .u64 0,.int .i64 0,.int .i64 0,.slice none 0 0] 32)):=⟨_,rfl⟩
 rw [← hw0] at xb z h2
 have X:=Lh xb
 have Z:=Lh z
 have BB:=Lh (hbel.trans (h2.mono hbel.size))
 have PB:=Lh (hb.below BB.out)
 have TW:=Lh (fun wx hx=>rtwin12_any v a g n u B k c t wx hx hk)
 have PU:=Lh (fun wx hx hy=>rput11_any B k c t Ab nb cb b wx hx hk hy hby)
 unfold PutOut at PU
 rw [hp] at PU
 have hA3:3≤A:=by have:=hmT.1;unfold mayC at this;omega
 have hA32:A≤32:=by have:=hmT.1;unfold mayC at this;omega
 have hty:=(put_may hp).2
 have hk3:=three_of12 hty
 have hNb:0≤N∧N < 18446744073709551616:=by have:=hi.1;rw [hN];dsimp only at this;omega
 have NX:=Lh (fun wx=>rnext_any v a g n u B k c wx hi.1 ⟨hu.1,by omega⟩)
 rw [← hN] at NX
 have RW:=Lh (fun A0 c0 wx hx=>rrows11_any A0 t'.length c0 t' wx hx hty)
 have IA:=Lh (fun (q:Nat) (hq:(q:Int) < 3) wx=>rinarea_any P T A M W Q (1 - a) q wx hmT.1 ⟨by omega,by omega,by omega,by omega⟩)
 have SE:=Lh (fun (q:Nat) (hq:(q:Int) < 3) Aq nq cq bq wx hx hn=>rsector_any N q hNb ⟨by omega,by omega⟩ Aq nq cq bq wx hx hn)
 have PL:=Lh (fun wx hx=>rplanned9_own P T A M W Q D nd d D' nd' d' S C v (1 - a) N wx hx hs hmT ⟨hi.1,hNb⟩ (by unfold arS;omega))
 obtain ⟨L1,hL1⟩:∃ y,y=plP S C (v,1 - a,N):=⟨_,rfl⟩
 have hL1n:L1.length=1:=by rw [hL1,plP_len]
 rw [← hL1] at PL ⊢
 obtain ⟨PS,hPS⟩:∃ y,y=rowsP A (1 - a) N t':=⟨_,rfl⟩
 have hPSn:PS.length=t'.length:=by rw [hPS,rowsP_len]
 have SN:=Lh (fun (q:Nat) (hq:q < t'.length)=>rowsP_snoc A (1 - a) N t' hq)
 rw [← hPS] at SN ⊢
 have AC:=Lh (fun A0 c0 bs wx hx hy=>racts_own A0 t'.length c0 bs PS wx hx (by omega) hy)
 have AC1:=Lh (fun A0 c0 bs wx hx hy=>racts_own A0 1 c0 bs L1 wx hx (by decide) hy)
 unfold NoteOut
 dsimp only [ansL,ansE] at PU
 dsimp only
 have hLA:(actsA PS).length=t'.length + 1:=by rw [actsA_length,hPSn]
 have hLB:(actsA L1).length=2:=by rw [actsA_length,hL1n]
 rw [show (actsA PS ++ actsA L1).length=t'.length + 3 by rw [List.length_append,hLA,hLB]]
 obtain ⟨LL,hLL⟩:∃ y,y=actsA PS:=⟨_,rfl⟩
 obtain ⟨LM,hLM⟩:∃ y,y=actsA L1:=⟨_,rfl⟩
 rw [← hLL] at AC ⊢
 rw [← hLM] at AC1 ⊢
 have PSN:=Lh hPSn
 have TL:=Lh (show (t'.map recT).length=t'.length by rw [List.length_map])
 have TG:=Lh (fun (q:Nat) (hq:q < t'.length)=>(show (t'.map recT).getD q []=recT (t'.getD q zR) by rw [gtD,List.getElem?_map,geE hq,gtD,geE hq];rfl))
 obtain ⟨kt,hkt⟩:∃ y,y=t'.length:=⟨_,rfl⟩
 rw [← hkt] at PU RW AC SN PSN TL TG hk3 ⊢
 obtain ⟨⟨c0,c1,c2,c3,c4,c5,c6,c7⟩,d0,d1,d2,d3,d4,d5⟩:=xb.cells
 have hwa:IntKind.i64.wrap (1 - a)=1 - a:=wrap_sm (by omega) (by omega)
 clear xb z h2 hbel hq ht hb hnb hby hp hN hLA hLB hLL hLM hL1 hL1n hPS hPSn hty hi hmT hk hs hkt
 go_enter Tryz.func57,Tryz.ntmps57
 go_wp2_with fail
 rw [← hw0]
 clear hw0
 refine (TW.out _ X.out.tab).mono ?_
 rintro e w1 ⟨A1,x1,rfl,hown,hb⟩
 obtain ⟨y,hk1⟩:=met_box w1 v a g n u A1 k x1
 have hS0:=hb.size
 have HW:=Lh (hb.trans (hk1.mono hb.size))
 have Y:=Lh y
 clear hb hk1 hown y TW c0 c1 c2 c3 c4 c5 c6 c7 d0 d1 d2 d3 d4 d5
 obtain ⟨⟨c0,c1,c2,c3,c4,c5,c6,c7⟩,d0,d1,d2,d3,d4,d5⟩:=(X.out.below HW.out).cells
 go_wp2_with fail
 clear c0 c1 c2 c3 c4 c5 c6 c7 d0 d1 d2 d3 d4 d5
 obtain ⟨w2,hw2⟩:∃ y:World,y=w1.alloc (.cells #[.int .u32 v,.int .i64 a,.int .u64 g,.int .i64 n,.int .i64 u,.slice A1 k x1] 32):=⟨_,rfl⟩
 rw [← hw2] at HW Y ⊢
 clear hw2
 refine (PU.out _ (X.out.below HW.out).tab (PB.out.below HW.out)).mono ?_
 rintro e w3 ⟨A2,x2,rfl,hown,hb⟩
 have hY1:w1.heap.size < w2.heap.size:=Y.out.lt
 have HW3:=Lh (HW.out.trans (hb.mono HW.out.size))
 have Y:=Lh (Y.out.below hb Y.out.lt)
 have O:=Lh ((hown.away hY1 5 (.slice A2 kt x2)).lower (Nat.le_trans hS0 (Nat.le_of_lt hY1)))
 have YS:=Lh (three_met Y.out (B':=A2) (k':=kt) (c':=x2))
 clear hb hown PU HW
 obtain ⟨⟨c0,c1,c2,c3,c4,c5,c6,c7⟩,d0,d1,d2,d3,d4,d5⟩:=(X.out.below HW3.out).cells
 have fy:=Y.out.free
 obtain ⟨y0,y1,y2,y3,y4,y5⟩:=Y.out.met
 have HW:=Lh (HW3.out.setCell (p:=⟨w1.heap.size,5,none⟩) hS0 (.slice A2 kt x2))
 obtain ⟨⟨q0,q1,q2,q3,q4,q5,q6,q7⟩,r0,r1,r2,r3,r4,r5⟩:=(X.out.below HW.out).cells
 have hnA:¬ n < A:=by omega
 go_upto_region 8 with fail
 obtain ⟨w4,hw4⟩:∃ y,y=w3.setCell ⟨w1.heap.size,5,none⟩ (.slice A2 kt x2):=⟨_,rfl⟩
 rw [← hw4] at HW O YS ⊢
 clear hw4 c0 c1 c2 c3 c4 c5 c6 c7 d0 d1 d2 d3 d4 d5 y0 y1 y2 y3 y4 y5 q0 q1 q2 q3 q4 q5 q6 q7 r0 r1 r2 r3 r4 r5 fy Y HW3
 refine wp_region_upto2 rfl 11 (fun a0 f ax wx=>∃ x0 x1 x2 x3 x4 x5 x6 x7 x8 x9 x10:Value,ax=(((((((((((a0.put (some 57) x0).put (some 58) x1).put (some 59) x2).put (some 60) x3).put (some 61) x4).put (some 62) x5).put (some 63) x6).put (some 64) x7).put (some 65) x8).put (some 66) x9).put (some 14) x10)∧Below w4.heap.size w4 wx∧(∀ j,f j=true→(([(Cl.is (.pointer (some ⟨w.heap.size + 1 + 1,0,none⟩))),(Cl.is (.pointer (some ⟨w.heap.size + 1 + 1,0,none⟩))),(Cl.is (.int .u32 v)),(Cl.is (.pointer (some ⟨w.heap.size + 1 + 1,0,none⟩))),(Cl.is (.pointer (some ⟨w.heap.size + 1 + 1,1,none⟩))),(Cl.is (.int .i64 a)),(Cl.is (.int .i64 (1 - a))),(Cl.is (.agg #[.int .u32 v,.int .i64 a,.int .u64 g,.int .i64 n,.int .i64 u,.slice B k c])),(Cl.is (.int .u64 N)),(Cl.is (.agg #[.int .u32 v,.int .i64 (1 - a),.int .u64 N])),(clN (fun v wx=>∃ hs:Nat,v=.pointer (some ⟨hs,0,none⟩)∧w4.heap.size≤hs∧Blk wx hs 29 [.int .u32 0,.int .i64 0,.int .u64 0]) (fun hb h=>by obtain ⟨hs,e,h1,h2⟩:=h;exact ⟨hs,e,h1,h2.below hb h2.lt⟩))]:List (Cl stN)).getD j Cl.any).p ([x0,x1,x2,x3,x4,x5,x6,x7,x8,x9,x10].getD j undef) wx)) (by decide) (by kernel_rfl) ?_ ?_ ?_
 ·exact ⟨undef,undef,undef,undef,undef,undef,undef,undef,undef,undef,undef,(by simp only [Act.put,stA,scZ,scS]),(Below.refl _ _).drew,(fun j h=>(by cases h))⟩
 ·refine ⟨⟨⟨⟨⟨⟨⟨⟨⟨⟨⟨trivial,?_⟩,?_⟩,?_⟩,?_⟩,?_⟩,?_⟩,?_⟩,?_⟩,?_⟩,?_⟩,?_⟩
  ·intro f ax wx hJ hf hd K' hK
   obtain ⟨x0,x1,x2,x3,x4,x5,x6,x7,x8,x9,x10,hax,hB,hp⟩:=hJ
   simp only [Act.put,stA,scZ,scS] at hax
   subst hax
   have HK:=Lh hK
   have HP:=Lh hp
   clear hK hp hf hd
   go_simp
   exact HK.out _ _ ⟨.pointer (some ⟨w.heap.size + 1 + 1,0,none⟩),x1,x2,x3,x4,x5,x6,x7,x8,x9,x10,(by simp only [Act.put,stA,scZ,scS]),hB,stepP [x0,x1,x2,x3,x4,x5,x6,x7,x8,x9,x10] 0 (.pointer (some ⟨w.heap.size + 1 + 1,0,none⟩)) HP.out (by simp) rfl⟩
  ·intro f ax wx hJ hf hd K' hK
   obtain ⟨x0,x1,x2,x3,x4,x5,x6,x7,x8,x9,x10,hax,hB,hp⟩:=hJ
   simp only [Act.put,stA,scZ,scS] at hax
   subst hax
   have HK:=Lh hK
   have e0:x0=.pointer (some ⟨w.heap.size + 1 + 1,0,none⟩):=hp 0 (deps_at (k:=0) rfl rfl rfl hd)
   subst e0
   have HP:=Lh hp
   clear hK hp hf hd
   go_simp
   exact HK.out _ _ ⟨.pointer (some ⟨w.heap.size + 1 + 1,0,none⟩),.pointer (some ⟨w.heap.size + 1 + 1,0,none⟩),x2,x3,x4,x5,x6,x7,x8,x9,x10,(by simp only [Act.put,stA,scZ,scS]),hB,stepP [.pointer (some ⟨w.heap.size + 1 + 1,0,none⟩),x1,x2,x3,x4,x5,x6,x7,x8,x9,x10] 1 (.pointer (some ⟨w.heap.size + 1 + 1,0,none⟩)) HP.out (by simp) rfl⟩
  ·intro f ax wx hJ hf hd K' hK
   obtain ⟨x0,x1,x2,x3,x4,x5,x6,x7,x8,x9,x10,hax,hB,hp⟩:=hJ
   simp only [Act.put,stA,scZ,scS] at hax
   subst hax
   have HK:=Lh hK
   have e1:x1=.pointer (some ⟨w.heap.size + 1 + 1,0,none⟩):=hp 1 (deps_at (k:=0) rfl rfl rfl hd)
   subst e1
   have HP:=Lh hp
   clear hK hp hf hd
   obtain ⟨⟨c0,c1,c2,c3,c4,c5,c6,c7⟩,d0,d1,d2,d3,d4,d5⟩:=(X.out.below (HW.out.trans (hB.mono HW.out.size))).cells
   go_simp
   exact HK.out _ _ ⟨x0,.pointer (some ⟨w.heap.size + 1 + 1,0,none⟩),.int .u32 v,x3,x4,x5,x6,x7,x8,x9,x10,(by simp only [Act.put,stA,scZ,scS]),hB,stepP [x0,.pointer (some ⟨w.heap.size + 1 + 1,0,none⟩),x2,x3,x4,x5,x6,x7,x8,x9,x10] 2 (.int .u32 v) HP.out (by simp) rfl⟩
  ·intro f ax wx hJ hf hd K' hK
   obtain ⟨x0,x1,x2,x3,x4,x5,x6,x7,x8,x9,x10,hax,hB,hp⟩:=hJ
   simp only [Act.put,stA,scZ,scS] at hax
   subst hax
   have HK:=Lh hK
   have HP:=Lh hp
   clear hK hp hf hd
   go_simp
   exact HK.out _ _ ⟨x0,x1,x2,.pointer (some ⟨w.heap.size + 1 + 1,0,none⟩),x4,x5,x6,x7,x8,x9,x10,(by simp only [Act.put,stA,scZ,scS]),hB,stepP [x0,x1,x2,x3,x4,x5,x6,x7,x8,x9,x10] 3 (.pointer (some ⟨w.heap.size + 1 + 1,0,none⟩)) HP.out (by simp) rfl⟩
  ·intro f ax wx hJ hf hd K' hK
   obtain ⟨x0,x1,x2,x3,x4,x5,x6,x7,x8,x9,x10,hax,hB,hp⟩:=hJ
   simp only [Act.put,stA,scZ,scS] at hax
   subst hax
   have HK:=Lh hK
   have e3:x3=.pointer (some ⟨w.heap.size + 1 + 1,0,none⟩):=hp 3 (deps_at (k:=0) rfl rfl rfl hd)
   subst e3
   have HP:=Lh hp
   clear hK hp hf hd
   go_simp
   exact HK.out _ _ ⟨x0,x1,x2,.pointer (some ⟨w.heap.size + 1 + 1,0,none⟩),.pointer (some ⟨w.heap.size + 1 + 1,1,none⟩),x5,x6,x7,x8,x9,x10,(by simp only [Act.put,stA,scZ,scS]),hB,stepP [x0,x1,x2,.pointer (some ⟨w.heap.size + 1 + 1,0,none⟩),x4,x5,x6,x7,x8,x9,x10] 4 (.pointer (some ⟨w.heap.size + 1 + 1,1,none⟩)) HP.out (by simp) rfl⟩
  ·intro f ax wx hJ hf hd K' hK
   obtain ⟨x0,x1,x2,x3,x4,x5,x6,x7,x8,x9,x10,hax,hB,hp⟩:=hJ
   simp only [Act.put,stA,scZ,scS] at hax
   subst hax
   have HK:=Lh hK
   have e4:x4=.pointer (some ⟨w.heap.size + 1 + 1,1,none⟩):=hp 4 (deps_at (k:=0) rfl rfl rfl hd)
   subst e4
   have HP:=Lh hp
   clear hK hp hf hd
   obtain ⟨⟨c0,c1,c2,c3,c4,c5,c6,c7⟩,d0,d1,d2,d3,d4,d5⟩:=(X.out.below (HW.out.trans (hB.mono HW.out.size))).cells
   go_simp
   exact HK.out _ _ ⟨x0,x1,x2,x3,.pointer (some ⟨w.heap.size + 1 + 1,1,none⟩),.int .i64 a,x6,x7,x8,x9,x10,(by simp only [Act.put,stA,scZ,scS]),hB,stepP [x0,x1,x2,x3,.pointer (some ⟨w.heap.size + 1 + 1,1,none⟩),x5,x6,x7,x8,x9,x10] 5 (.int .i64 a) HP.out (by simp) rfl⟩
  ·intro f ax wx hJ hf hd K' hK
   obtain ⟨x0,x1,x2,x3,x4,x5,x6,x7,x8,x9,x10,hax,hB,hp⟩:=hJ
   simp only [Act.put,stA,scZ,scS] at hax
   subst hax
   have HK:=Lh hK
   have e5:x5=.int .i64 a:=hp 5 (deps_at (k:=0) rfl rfl rfl hd)
   subst e5
   have HP:=Lh hp
   clear hK hp hf hd
   go_simp
   exact HK.out _ _ ⟨x0,x1,x2,x3,x4,.int .i64 a,.int .i64 (1 - a),x7,x8,x9,x10,(by simp only [Act.put,stA,scZ,scS]),hB,stepP [x0,x1,x2,x3,x4,.int .i64 a,x6,x7,x8,x9,x10] 6 (.int .i64 (1 - a)) HP.out (by simp) rfl⟩
  ·intro f ax wx hJ hf hd K' hK
   obtain ⟨x0,x1,x2,x3,x4,x5,x6,x7,x8,x9,x10,hax,hB,hp⟩:=hJ
   simp only [Act.put,stA,scZ,scS] at hax
   subst hax
   have HK:=Lh hK
   have HP:=Lh hp
   clear hK hp hf hd
   obtain ⟨⟨c0,c1,c2,c3,c4,c5,c6,c7⟩,d0,d1,d2,d3,d4,d5⟩:=(X.out.below (HW.out.trans (hB.mono HW.out.size))).cells
   go_simp
   exact HK.out _ _ ⟨x0,x1,x2,x3,x4,x5,x6,.agg #[.int .u32 v,.int .i64 a,.int .u64 g,.int .i64 n,.int .i64 u,.slice B k c],x8,x9,x10,(by simp only [Act.put,stA,scZ,scS]),hB,stepP [x0,x1,x2,x3,x4,x5,x6,x7,x8,x9,x10] 7 (.agg #[.int .u32 v,.int .i64 a,.int .u64 g,.int .i64 n,.int .i64 u,.slice B k c]) HP.out (by simp) rfl⟩
  ·intro f ax wx hJ hf hd K' hK
   obtain ⟨x0,x1,x2,x3,x4,x5,x6,x7,x8,x9,x10,hax,hB,hp⟩:=hJ
   simp only [Act.put,stA,scZ,scS] at hax
   subst hax
   have HK:=Lh hK
   have e7:x7=.agg #[.int .u32 v,.int .i64 a,.int .u64 g,.int .i64 n,.int .i64 u,.slice B k c]:=hp 7 (deps_at (k:=0) rfl rfl rfl hd)
   subst e7
   have HP:=Lh hp
   clear hK hp hf hd
   go_simp
   go_wp2_with (go_at_call 56;refine (NX.out _).mono ?_;rintro e w5 ⟨rfl,hb⟩)
   exact HK.out _ _ ⟨x0,x1,x2,x3,x4,x5,x6,.agg #[.int .u32 v,.int .i64 a,.int .u64 g,.int .i64 n,.int .i64 u,.slice B k c],.int .u64 N,x9,x10,(by simp only [Act.put,stA,scZ,scS]),hB.trans (hb.mono hB.size),stepB [x0,x1,x2,x3,x4,x5,x6,.agg #[.int .u32 v,.int .i64 a,.int .u64 g,.int .i64 n,.int .i64 u,.slice B k c],x8,x9,x10] 8 (.int .u64 N) hb HP.out (by simp) rfl⟩
  ·intro f ax wx hJ hf hd K' hK
   obtain ⟨x0,x1,x2,x3,x4,x5,x6,x7,x8,x9,x10,hax,hB,hp⟩:=hJ
   simp only [Act.put,stA,scZ,scS] at hax
   subst hax
   have HK:=Lh hK
   have e2:x2=.int .u32 v:=hp 2 (deps_at (k:=0) rfl rfl rfl hd)
   subst e2
   have e6:x6=.int .i64 (1 - a):=hp 6 (deps_at (k:=1) rfl rfl rfl hd)
   subst e6
   have e8:x8=.int .u64 N:=hp 8 (deps_at (k:=2) rfl rfl rfl hd)
   subst e8
   have HP:=Lh hp
   clear hK hp hf hd
   go_simp
   exact HK.out _ _ ⟨x0,x1,.int .u32 v,x3,x4,x5,.int .i64 (1 - a),x7,.int .u64 N,.agg #[.int .u32 v,.int .i64 (1 - a),.int .u64 N],x10,(by simp only [Act.put,stA,scZ,scS]),hB,stepP [x0,x1,.int .u32 v,x3,x4,x5,.int .i64 (1 - a),x7,.int .u64 N,x9,x10] 9 (.agg #[.int .u32 v,.int .i64 (1 - a),.int .u64 N]) HP.out (by simp) rfl⟩
  ·intro f ax wx hJ hf hd K' hK
   obtain ⟨x0,x1,x2,x3,x4,x5,x6,x7,x8,x9,x10,hax,hB,hp⟩:=hJ
   simp only [Act.put,stA,scZ,scS] at hax
   subst hax
   have HK:=Lh hK
   have HP:=Lh hp
   clear hK hp hf hd
   go_simp
   exact HK.out _ _ ⟨x0,x1,x2,x3,x4,x5,x6,x7,x8,x9,.pointer (some ⟨wx.heap.size,0,none⟩),(by simp only [Act.put,stA,scZ,scS]),hB.trans (((Below.refl _ _).alloc (Nat.le_refl _) _).mono hB.size),stepB [x0,x1,x2,x3,x4,x5,x6,x7,x8,x9,x10] 10 (.pointer (some ⟨wx.heap.size,0,none⟩)) ((Below.refl _ _).alloc (Nat.le_refl _) _) HP.out (by simp) ⟨_,rfl,hB.size,Blk.new _ _ _⟩⟩
 ·intro f ax wx hall hJ fuel
  obtain ⟨x0,x1,x2,x3,x4,x5,x6,x7,x8,x9,x10,hax,hB,hp⟩:=hJ
  simp only [Act.put,stA,scZ,scS] at hax
  have e0:x0=.pointer (some ⟨w.heap.size + 1 + 1,0,none⟩):=hp 0 (hall 0 (by decide))
  subst e0
  have e1:x1=.pointer (some ⟨w.heap.size + 1 + 1,0,none⟩):=hp 1 (hall 1 (by decide))
  subst e1
  have e2:x2=.int .u32 v:=hp 2 (hall 2 (by decide))
  subst e2
  have e3:x3=.pointer (some ⟨w.heap.size + 1 + 1,0,none⟩):=hp 3 (hall 3 (by decide))
  subst e3
  have e4:x4=.pointer (some ⟨w.heap.size + 1 + 1,1,none⟩):=hp 4 (hall 4 (by decide))
  subst e4
  have e5:x5=.int .i64 a:=hp 5 (hall 5 (by decide))
  subst e5
  have e6:x6=.int .i64 (1 - a):=hp 6 (hall 6 (by decide))
  subst e6
  have e7:x7=.agg #[.int .u32 v,.int .i64 a,.int .u64 g,.int .i64 n,.int .i64 u,.slice B k c]:=hp 7 (hall 7 (by decide))
  subst e7
  have e8:x8=.int .u64 N:=hp 8 (hall 8 (by decide))
  subst e8
  have e9:x9=.agg #[.int .u32 v,.int .i64 (1 - a),.int .u64 N]:=hp 9 (hall 9 (by decide))
  subst e9
  obtain ⟨hs,e10,f10⟩:=hp 10 (hall 10 (by decide))
  subst e10
  have F10:=Lh f10
  clear f10
  subst hax
  clear hp hall
  obtain ⟨hlS,hSB⟩:=F10.out
  have z0:=hSB.cell 0
  have z1:=hSB.cell 1
  have z2:=hSB.cell 2
  simp only [gcZ,gcS] at z0 z1 z2
  have fz:=hSB.free
  change wpAny _ _ _ _ (fuel + 1) _ _ _
  refine wpAny_ready (rs:=[11]) (by kernel_rfl) (by simp) ?_
  refine AllReady.cons rfl (fun K hK=>?_) AllReady.nil
  have HK:=Lh hK
  clear hK
  go_simp
  refine HK.out _ _ ?_
  clear HK K
  refine wpAny_done (by kernel_rfl) ?_ _
  clear z0 z1 z2 fz
  have HX:=HW.out.trans (hB.mono HW.out.size)
  have hsw:=Nat.le_trans HW.out.size hlS
  have H8:=Lh (((HX.setCell (p:=⟨hs,0,none⟩) hsw (.int .u32 v)).setCell (p:=⟨hs,1,none⟩) hsw (.int .i64 (1 - a))).setCell (p:=⟨hs,2,none⟩) hsw (.int .u64 N))
  have S8:=Lh (((hSB.set 0 (.int .u32 v)).set 1 (.int .i64 (1 - a))).set 2 (.int .u64 N))
  have O8:=Lh ((((O.out.below hB).boxT hSB (by decide) 0 (.int .u32 v)).boxT (hSB.set 0 _) (by decide) 1 (.int .i64 (1 - a))).boxT ((hSB.set 0 _).set 1 _) (by decide) 2 (.int .u64 N))
  have hne:w1.heap.size≠hs:=Blk.apart (YS.out.below hB YS.out.lt) hSB (by decide)
  have Y8:=Lh ((((YS.out.below hB YS.out.lt).away hne 0 (.int .u32 v)).away hne 1 (.int .i64 (1 - a))).away hne 2 (.int .u64 N))
  obtain ⟨w8,hw8⟩:∃ y,y=((wx.setCell ⟨hs,0,none⟩ (.int .u32 v)).setCell ⟨hs,1,none⟩ (.int .i64 (1 - a))).setCell ⟨hs,2,none⟩ (.int .u64 N):=⟨_,rfl⟩
  rw [← hw8] at H8 S8 O8 Y8 ⊢
  clear hw8 HX hSB hlS hB F10 HW YS O NX
  go_wp2_with fail
  refine (RW.out _ _ _ (Recs.of_own O8.out)).mono ?_
  rintro e w9 ⟨A3,c3,rfl,hown,hb⟩
  have H9:=Lh (H8.out.trans (hb.mono H8.out.size))
  have S9:=Lh (S8.out.below hb S8.out.lt)
  have O9:=Lh (O8.out.below hb)
  have Y9:=Lh (Y8.out.below hb Y8.out.lt)
  have T9:=Lh (Texts.of_own hown)
  clear hb hown RW H8 S8 O8 Y8
  go_wp2
  go_loopw [16,17] (fun o i wr=>∃ (q:Nat) (A9:Option Addr) (c9:Nat),q≤kt∧i=.int .i64 q∧o=.slice A9 q c9∧OwnPnds wr w9.heap.size A9 q c9 (PS.take q)∧Below w9.heap.size w9 wr) (fun _ i _=>kt - (intOf i).toNat)
  case atStart=>exact ⟨0,none,0,Nat.zero_le _,rfl,rfl,OwnPnds.nil _ _,Below.refl _ _⟩
  case round =>
   obtain ⟨q,A9,c9,hqk,rfl,rfl,hop,hbw⟩:=hrel
   have OP:=Lh hop
   have BW:=Lh hbw
   clear hop hbw
   by_cases hqt:q < kt
   ·have hqi:(q:Int) < (kt:Int):=by omega
    have hq3:(q:Int) < 3:=by omega
    obtain ⟨br,bo,Ak,nk,ck,rfl,hlt,hcell,hak⟩:=T9.out.at_ q hqt
    rw [TG.out q hqt] at hak
    have SQ:=Lh (SN.out q hqt)
    obtain ⟨Tq,hTq⟩:∃ y,y=recT (t'.getD q zR):=⟨_,rfl⟩
    have hTl:Tq.length=14:=by rw [hTq,recT_length]
    have hTb:∀ z ∈ Tq,isByte z:=by rw [hTq];exact recT_byte _
    rw [← hTq] at hak SQ
    have hnk:nk≤20:=by rw [← hak.len,hTl];decide
    have HAK:=Lh hak
    have I1:=Lh (IA.out q hq3)
    have S1:=Lh (fun wx hx=>SE.out q hq3 Ak nk ck Tq wx hx hnk)
    obtain ⟨xq,hxq⟩:∃ y,y=2 + (1 - a) * A + (q:Int):=⟨_,rfl⟩
    obtain ⟨Jq,hJq⟩:∃ y,y=jT N (q:Int) Tq:=⟨_,rfl⟩
    rw [← hxq] at I1 SQ
    rw [← hJq] at S1 SQ
    have JB:=Lh (show ∀ z ∈ Jq,isByte z by rw [hJq];exact jT_byte N q hTb)
    have CK:=Lh (And.intro hlt hcell)
    clear hlt hcell hak hTq hTl hTb hnk hxq hJq
    go_upto_region 14 with fail
    refine wp_region_upto2 rfl 16 (fun a0 f ax wx=>∃ x0 x1 x2 x3 x4 x5 x6 x7 x8 x9 x10 x11 x12 x13 x14 x15:Value,ax=((((((((((((((((a0.put (some 75) x0).put (some 76) x1).put (some 77) x2).put (some 78) x3).put (some 79) x4).put (some 80) x5).put (some 81) x6).put (some 82) x7).put (some 83) x8).put (some 84) x9).put (some 85) x10).put (some 86) x11).put (some 87) x12).put (some 88) x13).put (some 89) x14).put (some 90) x15)∧Below wr.heap.size wr wx∧(∀ j,f j=true→(([(Cl.is (.slice A9 q c9)),(Cl.is (.agg #[.int .i64 P,.int .i64 T,.int .i64 A,.int .i64 M,.int .i64 W,.int .i64 Q])),(Cl.is (.pointer (some ⟨hs,1,none⟩))),(Cl.is (.int .i64 (1 - a))),(Cl.is (.int .i64 q)),(Cl.is (.int .i64 xq)),(Cl.is (.pointer (some ⟨hs,2,none⟩))),(Cl.is (.int .u64 N)),(Cl.is (.int .i64 q)),(Cl.is (.slice (some ⟨br,bo,none⟩) kt c3)),(Cl.is (.int .i64 q)),(Cl.is (.pointer (some ⟨br,bo + q,none⟩))),(Cl.is (.slice Ak nk ck)),(clN (fun v wx=>∃ (A7:Option Addr) (c7:Nat),v=.slice A7 32 c7∧wx.ownsRow w9.heap.size 5 1 (.slice A7 32 c7) 32 (ints .u8 Jq)) (fun hb h=>by obtain ⟨A7,c7,e,h1⟩:=h;exact ⟨A7,c7,e,owns_below h1 hb⟩)),(clN (fun v wx=>∃ (A7:Option Addr) (c7:Nat),v=.agg #[.int .i64 xq,.slice A7 32 c7]∧wx.ownsRow w9.heap.size 5 1 (.slice A7 32 c7) 32 (ints .u8 Jq)) (fun hb h=>by obtain ⟨A7,c7,e,h1⟩:=h;exact ⟨A7,c7,e,owns_below h1 hb⟩)),(clN (fun v wx=>∃ (G:Nat) (A7:Option Addr) (c7:Nat),v=.slice (some ⟨G,0,none⟩) 1 1∧Blk wx G 114 [.int .i64 xq,.slice A7 32 c7]∧wx.ownsRow w9.heap.size 5 1 (.slice A7 32 c7) 32 (ints .u8 Jq)) (fun hb h=>by obtain ⟨G,A7,c7,e,h0,h1⟩:=h;exact ⟨G,A7,c7,e,h0.below hb h0.lt,owns_below h1 hb⟩))]:List (Cl stN)).getD j Cl.any).p ([x0,x1,x2,x3,x4,x5,x6,x7,x8,x9,x10,x11,x12,x13,x14,x15].getD j undef) wx)) (by decide) (by kernel_rfl) ?_ ?_ ?_
    ·exact ⟨u75,u76,u77,u78,u79,u80,u81,u82,u83,u84,u85,u86,u87,u88,u89,u90,(by simp only [Act.put,stA,scZ,scS]),(Below.refl _ _).drew,(fun j h=>(by cases h))⟩
    ·refine ⟨⟨⟨⟨⟨⟨⟨⟨⟨⟨⟨⟨⟨⟨⟨⟨trivial,?_⟩,?_⟩,?_⟩,?_⟩,?_⟩,?_⟩,?_⟩,?_⟩,?_⟩,?_⟩,?_⟩,?_⟩,?_⟩,?_⟩,?_⟩,?_⟩
     ·intro f ax wx hJ hf hd K' hK
      obtain ⟨x0,x1,x2,x3,x4,x5,x6,x7,x8,x9,x10,x11,x12,x13,x14,x15,hax,hB,hp⟩:=hJ
      simp only [Act.put,stA,scZ,scS] at hax
      subst hax
      have HK:=Lh hK
      have HP:=Lh hp
      clear hK hp hf hd
      go_simp
      exact HK.out _ _ ⟨.slice A9 q c9,x1,x2,x3,x4,x5,x6,x7,x8,x9,x10,x11,x12,x13,x14,x15,(by simp only [Act.put,stA,scZ,scS]),hB,stepP [x0,x1,x2,x3,x4,x5,x6,x7,x8,x9,x10,x11,x12,x13,x14,x15] 0 (.slice A9 q c9) HP.out (by simp) rfl⟩
     ·intro f ax wx hJ hf hd K' hK
      obtain ⟨x0,x1,x2,x3,x4,x5,x6,x7,x8,x9,x10,x11,x12,x13,x14,x15,hax,hB,hp⟩:=hJ
      simp only [Act.put,stA,scZ,scS] at hax
      subst hax
      have HK:=Lh hK
      have HP:=Lh hp
      clear hK hp hf hd
      obtain ⟨⟨c0,c1,c2,c3',c4,c5,c6,c7⟩,d0,d1,d2,d3,d4,d5⟩:=(X.out.below (H9.out.trans ((BW.out.trans (hB.mono BW.out.size)).mono H9.out.size))).cells
      go_simp
      exact HK.out _ _ ⟨x0,.agg #[.int .i64 P,.int .i64 T,.int .i64 A,.int .i64 M,.int .i64 W,.int .i64 Q],x2,x3,x4,x5,x6,x7,x8,x9,x10,x11,x12,x13,x14,x15,(by simp only [Act.put,stA,scZ,scS]),hB,stepP [x0,x1,x2,x3,x4,x5,x6,x7,x8,x9,x10,x11,x12,x13,x14,x15] 1 (.agg #[.int .i64 P,.int .i64 T,.int .i64 A,.int .i64 M,.int .i64 W,.int .i64 Q]) HP.out (by simp) rfl⟩
     ·intro f ax wx hJ hf hd K' hK
      obtain ⟨x0,x1,x2,x3,x4,x5,x6,x7,x8,x9,x10,x11,x12,x13,x14,x15,hax,hB,hp⟩:=hJ
      simp only [Act.put,stA,scZ,scS] at hax
      subst hax
      have HK:=Lh hK
      have HP:=Lh hp
      clear hK hp hf hd
      go_simp
      exact HK.out _ _ ⟨x0,x1,.pointer (some ⟨hs,1,none⟩),x3,x4,x5,x6,x7,x8,x9,x10,x11,x12,x13,x14,x15,(by simp only [Act.put,stA,scZ,scS]),hB,stepP [x0,x1,x2,x3,x4,x5,x6,x7,x8,x9,x10,x11,x12,x13,x14,x15] 2 (.pointer (some ⟨hs,1,none⟩)) HP.out (by simp) rfl⟩
     ·intro f ax wx hJ hf hd K' hK
      obtain ⟨x0,x1,x2,x3,x4,x5,x6,x7,x8,x9,x10,x11,x12,x13,x14,x15,hax,hB,hp⟩:=hJ
      simp only [Act.put,stA,scZ,scS] at hax
      subst hax
      have HK:=Lh hK
      have e2:x2=.pointer (some ⟨hs,1,none⟩):=hp 2 (deps_at (k:=0) rfl rfl rfl hd)
      subst e2
      have HP:=Lh hp
      clear hK hp hf hd
      have hSx:=S9.out.below (BW.out.trans (hB.mono BW.out.size)) S9.out.lt
      have z0:=hSx.cell 0
      have z1:=hSx.cell 1
      have z2:=hSx.cell 2
      simp only [scZ,scS,gcZ,gcS] at z0 z1 z2
      go_simp
      exact HK.out _ _ ⟨x0,x1,.pointer (some ⟨hs,1,none⟩),.int .i64 (1 - a),x4,x5,x6,x7,x8,x9,x10,x11,x12,x13,x14,x15,(by simp only [Act.put,stA,scZ,scS]),hB,stepP [x0,x1,.pointer (some ⟨hs,1,none⟩),x3,x4,x5,x6,x7,x8,x9,x10,x11,x12,x13,x14,x15] 3 (.int .i64 (1 - a)) HP.out (by simp) rfl⟩
     ·intro f ax wx hJ hf hd K' hK
      obtain ⟨x0,x1,x2,x3,x4,x5,x6,x7,x8,x9,x10,x11,x12,x13,x14,x15,hax,hB,hp⟩:=hJ
      simp only [Act.put,stA,scZ,scS] at hax
      subst hax
      have HK:=Lh hK
      have HP:=Lh hp
      clear hK hp hf hd
      go_simp
      exact HK.out _ _ ⟨x0,x1,x2,x3,.int .i64 q,x5,x6,x7,x8,x9,x10,x11,x12,x13,x14,x15,(by simp only [Act.put,stA,scZ,scS]),hB,stepP [x0,x1,x2,x3,x4,x5,x6,x7,x8,x9,x10,x11,x12,x13,x14,x15] 4 (.int .i64 q) HP.out (by simp) rfl⟩
     ·intro f ax wx hJ hf hd K' hK
      obtain ⟨x0,x1,x2,x3,x4,x5,x6,x7,x8,x9,x10,x11,x12,x13,x14,x15,hax,hB,hp⟩:=hJ
      simp only [Act.put,stA,scZ,scS] at hax
      subst hax
      have HK:=Lh hK
      have e1:x1=.agg #[.int .i64 P,.int .i64 T,.int .i64 A,.int .i64 M,.int .i64 W,.int .i64 Q]:=hp 1 (deps_at (k:=0) rfl rfl rfl hd)
      subst e1
      have e3:x3=.int .i64 (1 - a):=hp 3 (deps_at (k:=1) rfl rfl rfl hd)
      subst e3
      have e4:x4=.int .i64 q:=hp 4 (deps_at (k:=2) rfl rfl rfl hd)
      subst e4
      have HP:=Lh hp
      clear hK hp hf hd
      go_simp
      go_wp2_with (go_at_call 92;refine (I1.out _).mono ?_;rintro e w5 ⟨rfl,hb⟩)
      exact HK.out _ _ ⟨x0,.agg #[.int .i64 P,.int .i64 T,.int .i64 A,.int .i64 M,.int .i64 W,.int .i64 Q],x2,.int .i64 (1 - a),.int .i64 q,.int .i64 xq,x6,x7,x8,x9,x10,x11,x12,x13,x14,x15,(by simp only [Act.put,stA,scZ,scS]),hB.trans (hb.mono hB.size),stepB [x0,.agg #[.int .i64 P,.int .i64 T,.int .i64 A,.int .i64 M,.int .i64 W,.int .i64 Q],x2,.int .i64 (1 - a),.int .i64 q,x5,x6,x7,x8,x9,x10,x11,x12,x13,x14,x15] 5 (.int .i64 xq) hb HP.out (by simp) rfl⟩
     ·intro f ax wx hJ hf hd K' hK
      obtain ⟨x0,x1,x2,x3,x4,x5,x6,x7,x8,x9,x10,x11,x12,x13,x14,x15,hax,hB,hp⟩:=hJ
      simp only [Act.put,stA,scZ,scS] at hax
      subst hax
      have HK:=Lh hK
      have HP:=Lh hp
      clear hK hp hf hd
      go_simp
      exact HK.out _ _ ⟨x0,x1,x2,x3,x4,x5,.pointer (some ⟨hs,2,none⟩),x7,x8,x9,x10,x11,x12,x13,x14,x15,(by simp only [Act.put,stA,scZ,scS]),hB,stepP [x0,x1,x2,x3,x4,x5,x6,x7,x8,x9,x10,x11,x12,x13,x14,x15] 6 (.pointer (some ⟨hs,2,none⟩)) HP.out (by simp) rfl⟩
     ·intro f ax wx hJ hf hd K' hK
      obtain ⟨x0,x1,x2,x3,x4,x5,x6,x7,x8,x9,x10,x11,x12,x13,x14,x15,hax,hB,hp⟩:=hJ
      simp only [Act.put,stA,scZ,scS] at hax
      subst hax
      have HK:=Lh hK
      have e6:x6=.pointer (some ⟨hs,2,none⟩):=hp 6 (deps_at (k:=0) rfl rfl rfl hd)
      subst e6
      have HP:=Lh hp
      clear hK hp hf hd
      have hSx:=S9.out.below (BW.out.trans (hB.mono BW.out.size)) S9.out.lt
      have z0:=hSx.cell 0
      have z1:=hSx.cell 1
      have z2:=hSx.cell 2
      simp only [scZ,scS,gcZ,gcS] at z0 z1 z2
      go_simp
      exact HK.out _ _ ⟨x0,x1,x2,x3,x4,x5,.pointer (some ⟨hs,2,none⟩),.int .u64 N,x8,x9,x10,x11,x12,x13,x14,x15,(by simp only [Act.put,stA,scZ,scS]),hB,stepP [x0,x1,x2,x3,x4,x5,.pointer (some ⟨hs,2,none⟩),x7,x8,x9,x10,x11,x12,x13,x14,x15] 7 (.int .u64 N) HP.out (by simp) rfl⟩
     ·intro f ax wx hJ hf hd K' hK
      obtain ⟨x0,x1,x2,x3,x4,x5,x6,x7,x8,x9,x10,x11,x12,x13,x14,x15,hax,hB,hp⟩:=hJ
      simp only [Act.put,stA,scZ,scS] at hax
      subst hax
      have HK:=Lh hK
      have HP:=Lh hp
      clear hK hp hf hd
      go_simp
      exact HK.out _ _ ⟨x0,x1,x2,x3,x4,x5,x6,x7,.int .i64 q,x9,x10,x11,x12,x13,x14,x15,(by simp only [Act.put,stA,scZ,scS]),hB,stepP [x0,x1,x2,x3,x4,x5,x6,x7,x8,x9,x10,x11,x12,x13,x14,x15] 8 (.int .i64 q) HP.out (by simp) rfl⟩
     ·intro f ax wx hJ hf hd K' hK
      obtain ⟨x0,x1,x2,x3,x4,x5,x6,x7,x8,x9,x10,x11,x12,x13,x14,x15,hax,hB,hp⟩:=hJ
      simp only [Act.put,stA,scZ,scS] at hax
      subst hax
      have HK:=Lh hK
      have HP:=Lh hp
      clear hK hp hf hd
      go_simp
      exact HK.out _ _ ⟨x0,x1,x2,x3,x4,x5,x6,x7,x8,.slice (some ⟨br,bo,none⟩) kt c3,x10,x11,x12,x13,x14,x15,(by simp only [Act.put,stA,scZ,scS]),hB,stepP [x0,x1,x2,x3,x4,x5,x6,x7,x8,x9,x10,x11,x12,x13,x14,x15] 9 (.slice (some ⟨br,bo,none⟩) kt c3) HP.out (by simp) rfl⟩
     ·intro f ax wx hJ hf hd K' hK
      obtain ⟨x0,x1,x2,x3,x4,x5,x6,x7,x8,x9,x10,x11,x12,x13,x14,x15,hax,hB,hp⟩:=hJ
      simp only [Act.put,stA,scZ,scS] at hax
      subst hax
      have HK:=Lh hK
      have HP:=Lh hp
      clear hK hp hf hd
      go_simp
      exact HK.out _ _ ⟨x0,x1,x2,x3,x4,x5,x6,x7,x8,x9,.int .i64 q,x11,x12,x13,x14,x15,(by simp only [Act.put,stA,scZ,scS]),hB,stepP [x0,x1,x2,x3,x4,x5,x6,x7,x8,x9,x10,x11,x12,x13,x14,x15] 10 (.int .i64 q) HP.out (by simp) rfl⟩
     ·intro f ax wx hJ hf hd K' hK
      obtain ⟨x0,x1,x2,x3,x4,x5,x6,x7,x8,x9,x10,x11,x12,x13,x14,x15,hax,hB,hp⟩:=hJ
      simp only [Act.put,stA,scZ,scS] at hax
      subst hax
      have HK:=Lh hK
      have e9:x9=.slice (some ⟨br,bo,none⟩) kt c3:=hp 9 (deps_at (k:=0) rfl rfl rfl hd)
      subst e9
      have e10:x10=.int .i64 q:=hp 10 (deps_at (k:=1) rfl rfl rfl hd)
      subst e10
      have HP:=Lh hp
      clear hK hp hf hd
      go_simp
      exact HK.out _ _ ⟨x0,x1,x2,x3,x4,x5,x6,x7,x8,.slice (some ⟨br,bo,none⟩) kt c3,.int .i64 q,.pointer (some ⟨br,bo + q,none⟩),x12,x13,x14,x15,(by simp only [Act.put,stA,scZ,scS]),hB,stepP [x0,x1,x2,x3,x4,x5,x6,x7,x8,.slice (some ⟨br,bo,none⟩) kt c3,.int .i64 q,x11,x12,x13,x14,x15] 11 (.pointer (some ⟨br,bo + q,none⟩)) HP.out (by simp) rfl⟩
     ·intro f ax wx hJ hf hd K' hK
      obtain ⟨x0,x1,x2,x3,x4,x5,x6,x7,x8,x9,x10,x11,x12,x13,x14,x15,hax,hB,hp⟩:=hJ
      simp only [Act.put,stA,scZ,scS] at hax
      subst hax
      have HK:=Lh hK
      have e11:x11=.pointer (some ⟨br,bo + q,none⟩):=hp 11 (deps_at (k:=0) rfl rfl rfl hd)
      subst e11
      have HP:=Lh hp
      clear hK hp hf hd
      have tk:=((BW.out.trans (hB.mono BW.out.size)).cell (p:=⟨br,bo + q,none⟩) CK.out.1).trans CK.out.2
      go_simp
      exact HK.out _ _ ⟨x0,x1,x2,x3,x4,x5,x6,x7,x8,x9,x10,.pointer (some ⟨br,bo + q,none⟩),.slice Ak nk ck,x13,x14,x15,(by simp only [Act.put,stA,scZ,scS]),hB,stepP [x0,x1,x2,x3,x4,x5,x6,x7,x8,x9,x10,.pointer (some ⟨br,bo + q,none⟩),x12,x13,x14,x15] 12 (.slice Ak nk ck) HP.out (by simp) rfl⟩
     ·intro f ax wx hJ hf hd K' hK
      obtain ⟨x0,x1,x2,x3,x4,x5,x6,x7,x8,x9,x10,x11,x12,x13,x14,x15,hax,hB,hp⟩:=hJ
      simp only [Act.put,stA,scZ,scS] at hax
      subst hax
      have HK:=Lh hK
      have e7:x7=.int .u64 N:=hp 7 (deps_at (k:=0) rfl rfl rfl hd)
      subst e7
      have e8:x8=.int .i64 q:=hp 8 (deps_at (k:=1) rfl rfl rfl hd)
      subst e8
      have e12:x12=.slice Ak nk ck:=hp 12 (deps_at (k:=2) rfl rfl rfl hd)
      subst e12
      have HP:=Lh hp
      clear hK hp hf hd
      go_simp
      go_wp2_with (go_at_call 102;refine (S1.out _ (HAK.out.below (BW.out.trans (hB.mono BW.out.size)))).mono ?_;rintro e w5 ⟨A7,c7,rfl,hown,hb⟩)
      exact HK.out _ _ ⟨x0,x1,x2,x3,x4,x5,x6,.int .u64 N,.int .i64 q,x9,x10,x11,.slice Ak nk ck,.slice A7 32 c7,x14,x15,(by simp only [Act.put,stA,scZ,scS]),hB.trans (hb.mono hB.size),stepB [x0,x1,x2,x3,x4,x5,x6,.int .u64 N,.int .i64 q,x9,x10,x11,.slice Ak nk ck,x13,x14,x15] 13 (.slice A7 32 c7) hb HP.out (by simp) ⟨A7,c7,rfl,owns_base hown (Nat.le_trans BW.out.size hB.size)⟩⟩
     ·intro f ax wx hJ hf hd K' hK
      obtain ⟨x0,x1,x2,x3,x4,x5,x6,x7,x8,x9,x10,x11,x12,x13,x14,x15,hax,hB,hp⟩:=hJ
      simp only [Act.put,stA,scZ,scS] at hax
      subst hax
      have HK:=Lh hK
      have e5:x5=.int .i64 xq:=hp 5 (deps_at (k:=0) rfl rfl rfl hd)
      subst e5
      obtain ⟨A7,c7,e13,f13⟩:=hp 13 (deps_at (k:=1) rfl rfl rfl hd)
      subst e13
      have F13:=Lh f13
      clear f13
      have HP:=Lh hp
      clear hK hp hf hd
      go_simp
      exact HK.out _ _ ⟨x0,x1,x2,x3,x4,.int .i64 xq,x6,x7,x8,x9,x10,x11,x12,.slice A7 32 c7,.agg #[.int .i64 xq,.slice A7 32 c7],x15,(by simp only [Act.put,stA,scZ,scS]),hB,stepP [x0,x1,x2,x3,x4,.int .i64 xq,x6,x7,x8,x9,x10,x11,x12,.slice A7 32 c7,x14,x15] 14 (.agg #[.int .i64 xq,.slice A7 32 c7]) HP.out (by simp) ⟨A7,c7,rfl,F13.out⟩⟩
     ·intro f ax wx hJ hf hd K' hK
      obtain ⟨x0,x1,x2,x3,x4,x5,x6,x7,x8,x9,x10,x11,x12,x13,x14,x15,hax,hB,hp⟩:=hJ
      simp only [Act.put,stA,scZ,scS] at hax
      subst hax
      have HK:=Lh hK
      obtain ⟨A7,c7,e14,f14⟩:=hp 14 (deps_at (k:=0) rfl rfl rfl hd)
      subst e14
      have F14:=Lh f14
      clear f14
      have HP:=Lh hp
      clear hK hp hf hd
      go_simp
      exact HK.out _ _ ⟨x0,x1,x2,x3,x4,x5,x6,x7,x8,x9,x10,x11,x12,x13,.agg #[.int .i64 xq,.slice A7 32 c7],.slice (some ⟨wx.heap.size,0,none⟩) 1 1,(by simp only [Act.put,stA,scZ,scS]),hB.trans (((Below.refl _ _).alloc (Nat.le_refl _) _).mono hB.size),stepB [x0,x1,x2,x3,x4,x5,x6,x7,x8,x9,x10,x11,x12,x13,.agg #[.int .i64 xq,.slice A7 32 c7],x15] 15 (.slice (some ⟨wx.heap.size,0,none⟩) 1 1) ((Below.refl _ _).alloc (Nat.le_refl _) _) HP.out (by simp) ⟨_,A7,c7,rfl,Blk.new _ _ _,owns_below F14.out ((Below.refl _ _).alloc (Nat.le_refl _) _)⟩⟩
    ·intro f ax wx hall hJ fuel
     obtain ⟨x0,x1,x2,x3,x4,x5,x6,x7,x8,x9,x10,x11,x12,x13,x14,x15,hax,hB,hp⟩:=hJ
     simp only [Act.put,stA,scZ,scS] at hax
     have e0:x0=.slice A9 q c9:=hp 0 (hall 0 (by decide))
     subst e0
     have e1:x1=.agg #[.int .i64 P,.int .i64 T,.int .i64 A,.int .i64 M,.int .i64 W,.int .i64 Q]:=hp 1 (hall 1 (by decide))
     subst e1
     have e2:x2=.pointer (some ⟨hs,1,none⟩):=hp 2 (hall 2 (by decide))
     subst e2
     have e3:x3=.int .i64 (1 - a):=hp 3 (hall 3 (by decide))
     subst e3
     have e4:x4=.int .i64 q:=hp 4 (hall 4 (by decide))
     subst e4
     have e5:x5=.int .i64 xq:=hp 5 (hall 5 (by decide))
     subst e5
     have e6:x6=.pointer (some ⟨hs,2,none⟩):=hp 6 (hall 6 (by decide))
     subst e6
     have e7:x7=.int .u64 N:=hp 7 (hall 7 (by decide))
     subst e7
     have e8:x8=.int .i64 q:=hp 8 (hall 8 (by decide))
     subst e8
     have e9:x9=.slice (some ⟨br,bo,none⟩) kt c3:=hp 9 (hall 9 (by decide))
     subst e9
     have e10:x10=.int .i64 q:=hp 10 (hall 10 (by decide))
     subst e10
     have e11:x11=.pointer (some ⟨br,bo + q,none⟩):=hp 11 (hall 11 (by decide))
     subst e11
     have e12:x12=.slice Ak nk ck:=hp 12 (hall 12 (by decide))
     subst e12
     obtain ⟨A7,c7,e13,f13⟩:=hp 13 (hall 13 (by decide))
     subst e13
     have F13:=Lh f13
     clear f13
     obtain ⟨A7,c7,e14,f14⟩:=hp 14 (hall 14 (by decide))
     subst e14
     have F14:=Lh f14
     clear f14
     obtain ⟨G,A7,c7,e15,f15⟩:=hp 15 (hall 15 (by decide))
     subst e15
     have F15:=Lh f15
     clear f15
     subst hax
     clear hp hall
     obtain ⟨hPB,hRW⟩:=F15.out
     have OX:=OP.out.below hB
     have hbb:=Nat.le_trans BW.out.size hB.size
     change wpAny _ _ _ _ (fuel + 1 + 1) _ _ _
     refine wpAny_ready (rs:=[16]) (by kernel_rfl) (by simp) ?_
     refine AllReady.cons rfl (fun K hK=>?_) AllReady.nil
     have HK:=Lh hK
     clear hK
     refine step_pndG wx (by rfl) (.tmp 75) (.tmp 90) (by rfl) w9.heap.size A9 q c9 (PS.take q) (by rfl) OX G A7 32 c7 xq Jq hPB JB.out hRW (by rfl) (by omega) hbb ?_
     intro g' c' w' hown' hb'
     have OW:=Lh hown'
     have BX:=Lh ((BW.out.trans (hB.mono BW.out.size)).trans hb')
     clear hown' hb' OX hPB hRW hbb
     refine HK.out _ _ ?_
     clear HK K
     refine wpAny_ready (rs:=[17]) (by kernel_rfl) (by simp) ?_
     refine AllReady.cons rfl (fun K hK=>?_) AllReady.nil
     have HK:=Lh hK
     clear hK
     go_simp
     refine HK.out _ _ ?_
     clear HK K
     refine wpAny_done (by kernel_rfl) ?_ _
     clear F13 F14 F15 hB
     have w64:IntKind.i64.wrap ((q:Int) + 1)=(q:Int) + 1:=Lib.wrap_i64_small (q + 1) (by omega)
     go_wp2
     go_roundw
     case rel=>exact ⟨q + 1,_,c',by omega,by go_num,rfl,by rw [SQ.out];exact OW.out,BX.out⟩
     all_goals (try case measure=>simp [intOf];omega)
   ·obtain rfl:kt=q:=by omega
    have OPF:OwnPnds wr w9.heap.size A9 kt c9 PS:=by
     have h:=OP.out
     rw [List.take_of_length_le (by rw [PSN.out];exact Nat.le_refl _)] at h
     exact h
    have HXW:=Lh (H9.out.trans (BW.out.mono H9.out.size))
    have SW:=Lh (S9.out.below BW.out S9.out.lt)
    have OW9:=Lh (O9.out.below BW.out)
    have YW:=Lh (Y9.out.below BW.out Y9.out.lt)
    have B9:=Lh BW.out.size
    have BZ:=Lh H9.out.size
    clear OP
    have z0:=SW.out.cell 0
    have z1:=SW.out.cell 1
    have z2:=SW.out.cell 2
    simp only [scZ,scS,gcZ,gcS] at z0 z1 z2
    obtain ⟨y0,y1,y2,y3,y4,y5⟩:=YW.out.met
    have fy:=YW.out.free
    have hwu:IntKind.i64.wrap (u + 1)=u + 1:=wrap_sm (by omega) (by omega)
    have HX4:=(((HXW.out.setCell (p:=⟨w1.heap.size,0,none⟩) hS0 (.int .u32 v)).setCell (p:=⟨w1.heap.size,1,none⟩) hS0 (.int .i64 (1 - a))).setCell (p:=⟨w1.heap.size,2,none⟩) hS0 (.int .u64 N)).setCell (p:=⟨w1.heap.size,3,none⟩) hS0 (.int .i64 kt)
    obtain ⟨⟨k0,k1,k2,k3,k4,k5,k6,k7⟩,m0,m1,m2,m3,m4,m5⟩:=(X.out.below HX4).cells
    go_upto_region 18 with fail
    clear k0 k1 k2 k3 k4 k5 k6 k7 m0 m1 m2 m3 m4 m5 y0 y1 y2 y3 y4 y5 fy z0 z1 z2
    have H18:=Lh (HX4.setCell (p:=⟨w1.heap.size,4,none⟩) hS0 (.int .i64 (u + 1)))
    have e1:=YW.out
    have e2:=e1.set 0 (.int .u32 v)
    have e3:=e2.set 1 (.int .i64 (1 - a))
    have e4:=e3.set 2 (.int .u64 N)
    have e5:=e4.set 3 (.int .i64 kt)
    have Y18:=Lh (show Blk (((((wr.setCell ⟨w1.heap.size,0,none⟩ (.int .u32 v)).setCell ⟨w1.heap.size,1,none⟩ (.int .i64 (1 - a))).setCell ⟨w1.heap.size,2,none⟩ (.int .u64 N)).setCell ⟨w1.heap.size,3,none⟩ (.int .i64 kt)).setCell ⟨w1.heap.size,4,none⟩ (.int .i64 (u + 1))) w1.heap.size 32 (metL v (1 - a) N kt (u + 1) A2 kt x2) from e5.set 4 (.int .i64 (u + 1)))
    have O18:=Lh (((((OW9.out.boxM e1 0 (.int .u32 v)).boxM e2 1 (.int .i64 (1 - a))).boxM e3 2 (.int .u64 N)).boxM e4 3 (.int .i64 kt)).boxM e5 4 (.int .i64 (u + 1)))
    have P18:=Lh (((((OPF.box e1 (by decide) (by decide) 0 (.int .u32 v)).box e2 (by decide) (by decide) 1 (.int .i64 (1 - a))).box e3 (by decide) (by decide) 2 (.int .u64 N)).box e4 (by decide) (by decide) 3 (.int .i64 kt)).box e5 (by decide) (by decide) 4 (.int .i64 (u + 1)))
    have hne:hs≠w1.heap.size:=Blk.apart SW.out e1 (by decide)
    have S18:=Lh (((((SW.out.away hne 0 (.int .u32 v)).away hne 1 (.int .i64 (1 - a))).away hne 2 (.int .u64 N)).away hne 3 (.int .i64 kt)).away hne 4 (.int .i64 (u + 1)))
    have B18:=Lh (show w9.heap.size≤(((((wr.setCell ⟨w1.heap.size,0,none⟩ (.int .u32 v)).setCell ⟨w1.heap.size,1,none⟩ (.int .i64 (1 - a))).setCell ⟨w1.heap.size,2,none⟩ (.int .u64 N)).setCell ⟨w1.heap.size,3,none⟩ (.int .i64 kt)).setCell ⟨w1.heap.size,4,none⟩ (.int .i64 (u + 1))).heap.size by simp only [World.size_setCell];exact B9.out)
    obtain ⟨w18,hw18⟩:∃ y,y=((((wr.setCell ⟨w1.heap.size,0,none⟩ (.int .u32 v)).setCell ⟨w1.heap.size,1,none⟩ (.int .i64 (1 - a))).setCell ⟨w1.heap.size,2,none⟩ (.int .u64 N)).setCell ⟨w1.heap.size,3,none⟩ (.int .i64 kt)).setCell ⟨w1.heap.size,4,none⟩ (.int .i64 (u + 1)):=⟨_,rfl⟩
    rw [← hw18] at H18 Y18 O18 P18 S18 B18 ⊢
    clear hw18 e1 e2 e3 e4 e5 hne HX4 HXW SW OW9 YW OPF hwu B9 H9 S9 O9 Y9 BW
    refine wp_region_upto2 rfl 8 (fun a0 f ax wx=>∃ s0 s1 s2 s3 s4 s5 s6 s7:Value,ax=((((((((a0.put (some 101) s0).put (some 102) s1).put (some 103) s2).put (some 104) s3).put (some 105) s4).put (some 106) s5).put (some 107) s6).put (some 108) s7)∧Below w18.heap.size w18 wx∧(f 0=true→s0=.agg #[.int .u32 v,.int .i64 (1 - a),.int .u64 N,.int .i64 kt,.int .i64 (u + 1),.slice A2 kt x2])∧(f 1=true→s1=.slice A9 kt c9)∧(f 3=true→s3=diskV D nd d D' nd' d')∧(f 4=true→s4=supV v (1 - a) N)∧(f 7=false→(f 2=true→∃ (Ax:Option Addr) (cx:Nat),s2=.slice Ax (kt + 1) cx∧OwnActs wx w9.heap.size Ax (kt + 1) cx LL∧∀ g,(Value.slice Ax (kt + 1) cx).ownBlock=some g→w18.heap.size≤g)∧(f 5=true→∃ (Ap:Option Addr) (cp:Nat),s5=.slice Ap 1 cp∧OwnPnds wx w9.heap.size Ap 1 cp L1)∧(f 6=true→∃ (Ay:Option Addr) (cy:Nat),s6=.slice Ay 2 cy∧OwnActs wx w9.heap.size Ay 2 cy LM))∧(f 7=true→∃ (Az:Option Addr) (cz:Nat),s7=.slice Az (kt + 1 + 2) cz∧OwnActs wx w9.heap.size Az (kt + 1 + 2) cz (LL ++ LM))∧(f 7=true→f 6=true)) (by decide) (by kernel_rfl) ?_ ?_ ?_
    ·exact ⟨undef,undef,undef,undef,undef,undef,undef,undef,(by simp only [Act.put,stA,scZ,scS]),(Below.refl _ _).drew,(fun h=>(by cases h)),(fun h=>(by cases h)),(fun h=>(by cases h)),(fun h=>(by cases h)),(fun _=>⟨(fun h=>(by cases h)),(fun h=>(by cases h)),(fun h=>(by cases h))⟩),(fun h=>(by cases h)),(fun h=>(by cases h))⟩
    ·refine ⟨⟨⟨⟨⟨⟨⟨⟨trivial,?_⟩,?_⟩,?_⟩,?_⟩,?_⟩,?_⟩,?_⟩,?_⟩
     ·intro f ax wx hJ hf hd K' hK
      obtain ⟨s0,s1,s2,s3,s4,s5,s6,s7,hax,hB,p0,p1,p3,p4,hq,h7,c7⟩:=hJ
      simp only [Act.put,stA,scZ,scS] at hax
      subst hax
      have HK:=Lh hK
      have P0:=Lh p0
      have P1:=Lh p1
      have P3:=Lh p3
      have P4:=Lh p4
      have HQ:=Lh hq
      have H7:=Lh h7
      have C7:=Lh c7
      clear hK p0 p1 p3 p4 hq h7 c7 hf hd
      obtain ⟨y0,y1,y2,y3,y4,y5⟩:=(Y18.out.below hB Y18.out.lt).met
      go_simp
      exact HK.out _ _ ⟨.agg #[.int .u32 v,.int .i64 (1 - a),.int .u64 N,.int .i64 kt,.int .i64 (u + 1),.slice A2 kt x2],s1,s2,s3,s4,s5,s6,s7,(by simp only [Act.put,stA,scZ,scS]),hB,fun _=>rfl,fun h=>P1.out (more_of (by decide) h),fun h=>P3.out (more_of (by decide) h),fun h=>P4.out (more_of (by decide) h),fun h0=>⟨fun h=>(by obtain ⟨Ax,cx,e,o,g⟩:=(HQ.out (less_of (by decide) h0)).1 (more_of (by decide) h);exact ⟨Ax,cx,e,o,g⟩),fun h=>(by obtain ⟨Ap,cp,e,o⟩:=(HQ.out (less_of (by decide) h0)).2.1 (more_of (by decide) h);exact ⟨Ap,cp,e,o⟩),fun h=>(by obtain ⟨Ay,cy,e,o⟩:=(HQ.out (less_of (by decide) h0)).2.2 (more_of (by decide) h);exact ⟨Ay,cy,e,o⟩)⟩,fun h=>(by obtain ⟨Az,cz,e,o⟩:=H7.out (more_of (by decide) h);exact ⟨Az,cz,e,o⟩),fun h=>keep_of (C7.out (more_of (by decide) h))⟩
     ·intro f ax wx hJ hf hd K' hK
      obtain ⟨s0,s1,s2,s3,s4,s5,s6,s7,hax,hB,p0,p1,p3,p4,hq,h7,c7⟩:=hJ
      simp only [Act.put,stA,scZ,scS] at hax
      subst hax
      have HK:=Lh hK
      have P0:=Lh p0
      have P1:=Lh p1
      have P3:=Lh p3
      have P4:=Lh p4
      have HQ:=Lh hq
      have H7:=Lh h7
      have C7:=Lh c7
      clear hK p0 p1 p3 p4 hq h7 c7 hf hd
      go_simp
      exact HK.out _ _ ⟨s0,.slice A9 kt c9,s2,s3,s4,s5,s6,s7,(by simp only [Act.put,stA,scZ,scS]),hB,fun h=>P0.out (more_of (by decide) h),fun _=>rfl,fun h=>P3.out (more_of (by decide) h),fun h=>P4.out (more_of (by decide) h),fun h0=>⟨fun h=>(by obtain ⟨Ax,cx,e,o,g⟩:=(HQ.out (less_of (by decide) h0)).1 (more_of (by decide) h);exact ⟨Ax,cx,e,o,g⟩),fun h=>(by obtain ⟨Ap,cp,e,o⟩:=(HQ.out (less_of (by decide) h0)).2.1 (more_of (by decide) h);exact ⟨Ap,cp,e,o⟩),fun h=>(by obtain ⟨Ay,cy,e,o⟩:=(HQ.out (less_of (by decide) h0)).2.2 (more_of (by decide) h);exact ⟨Ay,cy,e,o⟩)⟩,fun h=>(by obtain ⟨Az,cz,e,o⟩:=H7.out (more_of (by decide) h);exact ⟨Az,cz,e,o⟩),fun h=>keep_of (C7.out (more_of (by decide) h))⟩
     ·intro f ax wx hJ hf hd K' hK
      obtain ⟨s0,s1,s2,s3,s4,s5,s6,s7,hax,hB,p0,p1,p3,p4,hq,h7,c7⟩:=hJ
      simp only [Act.put,stA,scZ,scS] at hax
      subst hax
      have HK:=Lh hK
      have e1:=p1 (deps_at (k:=0) rfl rfl rfl hd)
      subst e1
      have P0:=Lh p0
      have P1:=Lh p1
      have P3:=Lh p3
      have P4:=Lh p4
      have HQ:=Lh hq
      have H7:=Lh h7
      have C7:=Lh c7
      clear hK p0 p1 p3 p4 hq h7 c7 hf hd
      go_simp
      go_wp2_with (go_at_call 93;refine (AC.out _ _ w9.heap.size _ (P18.out.below hB) (Nat.le_trans B18.out hB.size)).mono ?_;rintro e w5 ⟨Ax,cx,rfl,ho,hg,hb⟩)
      exact HK.out _ _ ⟨s0,.slice A9 kt c9,.slice Ax (kt + 1) cx,s3,s4,s5,s6,s7,(by simp only [Act.put,stA,scZ,scS]),hB.trans (hb.mono hB.size),fun h=>P0.out (more_of (by decide) h),fun _=>rfl,fun h=>P3.out (more_of (by decide) h),fun h=>P4.out (more_of (by decide) h),fun h0=>⟨fun _=>⟨Ax,cx,rfl,ho,fun g e=>Nat.le_trans hB.size (hg g e)⟩,fun h=>(by obtain ⟨Ap,cp,e,o⟩:=(HQ.out (less_of (by decide) h0)).2.1 (more_of (by decide) h);exact ⟨Ap,cp,e,o.below hb⟩),fun h=>(by obtain ⟨Ay,cy,e,o⟩:=(HQ.out (less_of (by decide) h0)).2.2 (more_of (by decide) h);exact ⟨Ay,cy,e,o.below hb⟩)⟩,fun h=>(by obtain ⟨Az,cz,e,o⟩:=H7.out (more_of (by decide) h);exact ⟨Az,cz,e,o.below hb⟩),fun h=>keep_of (C7.out (more_of (by decide) h))⟩
     ·intro f ax wx hJ hf hd K' hK
      obtain ⟨s0,s1,s2,s3,s4,s5,s6,s7,hax,hB,p0,p1,p3,p4,hq,h7,c7⟩:=hJ
      simp only [Act.put,stA,scZ,scS] at hax
      subst hax
      have HK:=Lh hK
      have P0:=Lh p0
      have P1:=Lh p1
      have P3:=Lh p3
      have P4:=Lh p4
      have HQ:=Lh hq
      have H7:=Lh h7
      have C7:=Lh c7
      clear hK p0 p1 p3 p4 hq h7 c7 hf hd
      obtain ⟨⟨k0,k1,k2,k3,k4,k5,k6,k7⟩,m0,m1,m2,m3,m4,m5⟩:=(X.out.below (H18.out.trans (hB.mono H18.out.size))).cells
      go_simp
      exact HK.out _ _ ⟨s0,s1,s2,diskV D nd d D' nd' d',s4,s5,s6,s7,(by simp only [Act.put,stA,scZ,scS]),hB,fun h=>P0.out (more_of (by decide) h),fun h=>P1.out (more_of (by decide) h),fun _=>rfl,fun h=>P4.out (more_of (by decide) h),fun h0=>⟨fun h=>(by obtain ⟨Ax,cx,e,o,g⟩:=(HQ.out (less_of (by decide) h0)).1 (more_of (by decide) h);exact ⟨Ax,cx,e,o,g⟩),fun h=>(by obtain ⟨Ap,cp,e,o⟩:=(HQ.out (less_of (by decide) h0)).2.1 (more_of (by decide) h);exact ⟨Ap,cp,e,o⟩),fun h=>(by obtain ⟨Ay,cy,e,o⟩:=(HQ.out (less_of (by decide) h0)).2.2 (more_of (by decide) h);exact ⟨Ay,cy,e,o⟩)⟩,fun h=>(by obtain ⟨Az,cz,e,o⟩:=H7.out (more_of (by decide) h);exact ⟨Az,cz,e,o⟩),fun h=>keep_of (C7.out (more_of (by decide) h))⟩
     ·intro f ax wx hJ hf hd K' hK
      obtain ⟨s0,s1,s2,s3,s4,s5,s6,s7,hax,hB,p0,p1,p3,p4,hq,h7,c7⟩:=hJ
      simp only [Act.put,stA,scZ,scS] at hax
      subst hax
      have HK:=Lh hK
      have P0:=Lh p0
      have P1:=Lh p1
      have P3:=Lh p3
      have P4:=Lh p4
      have HQ:=Lh hq
      have H7:=Lh h7
      have C7:=Lh c7
      clear hK p0 p1 p3 p4 hq h7 c7 hf hd
      have hSx:=S18.out.below hB S18.out.lt
      have z0:=hSx.cell 0
      have z1:=hSx.cell 1
      have z2:=hSx.cell 2
      simp only [scZ,scS,gcZ,gcS] at z0 z1 z2
      go_simp
      exact HK.out _ _ ⟨s0,s1,s2,s3,supV v (1 - a) N,s5,s6,s7,(by simp only [Act.put,stA,scZ,scS]),hB,fun h=>P0.out (more_of (by decide) h),fun h=>P1.out (more_of (by decide) h),fun h=>P3.out (more_of (by decide) h),fun _=>rfl,fun h0=>⟨fun h=>(by obtain ⟨Ax,cx,e,o,g⟩:=(HQ.out (less_of (by decide) h0)).1 (more_of (by decide) h);exact ⟨Ax,cx,e,o,g⟩),fun h=>(by obtain ⟨Ap,cp,e,o⟩:=(HQ.out (less_of (by decide) h0)).2.1 (more_of (by decide) h);exact ⟨Ap,cp,e,o⟩),fun h=>(by obtain ⟨Ay,cy,e,o⟩:=(HQ.out (less_of (by decide) h0)).2.2 (more_of (by decide) h);exact ⟨Ay,cy,e,o⟩)⟩,fun h=>(by obtain ⟨Az,cz,e,o⟩:=H7.out (more_of (by decide) h);exact ⟨Az,cz,e,o⟩),fun h=>keep_of (C7.out (more_of (by decide) h))⟩
     ·intro f ax wx hJ hf hd K' hK
      obtain ⟨s0,s1,s2,s3,s4,s5,s6,s7,hax,hB,p0,p1,p3,p4,hq,h7,c7⟩:=hJ
      simp only [Act.put,stA,scZ,scS] at hax
      subst hax
      have HK:=Lh hK
      have e3:=p3 (deps_at (k:=0) rfl rfl rfl hd)
      subst e3
      have e4:=p4 (deps_at (k:=1) rfl rfl rfl hd)
      subst e4
      have P0:=Lh p0
      have P1:=Lh p1
      have P3:=Lh p3
      have P4:=Lh p4
      have HQ:=Lh hq
      have H7:=Lh h7
      have C7:=Lh c7
      clear hK p0 p1 p3 p4 hq h7 c7 hf hd
      go_simp
      go_wp2_with (go_at_call 94;refine (PL.out _ (X.out.below (H18.out.trans (hB.mono H18.out.size))).two.dsk.dsk).mono ?_;rintro e w5 ⟨Ap,cp,rfl,ho,hb⟩)
      exact HK.out _ _ ⟨s0,s1,s2,diskV D nd d D' nd' d',supV v (1 - a) N,.slice Ap 1 cp,s6,s7,(by simp only [Act.put,stA,scZ,scS]),hB.trans (hb.mono hB.size),fun h=>P0.out (more_of (by decide) h),fun h=>P1.out (more_of (by decide) h),fun _=>rfl,fun _=>rfl,fun h0=>⟨fun h=>(by obtain ⟨Ax,cx,e,o,g⟩:=(HQ.out (less_of (by decide) h0)).1 (more_of (by decide) h);exact ⟨Ax,cx,e,o.below hb,g⟩),fun _=>⟨Ap,cp,rfl,ho.lower (Nat.le_trans B18.out hB.size)⟩,fun h=>(by obtain ⟨Ay,cy,e,o⟩:=(HQ.out (less_of (by decide) h0)).2.2 (more_of (by decide) h);exact ⟨Ay,cy,e,o.below hb⟩)⟩,fun h=>(by obtain ⟨Az,cz,e,o⟩:=H7.out (more_of (by decide) h);exact ⟨Az,cz,e,o.below hb⟩),fun h=>keep_of (C7.out (more_of (by decide) h))⟩
     ·intro f ax wx hJ hf hd K' hK
      obtain ⟨s0,s1,s2,s3,s4,s5,s6,s7,hax,hB,p0,p1,p3,p4,hq,h7,c7⟩:=hJ
      simp only [Act.put,stA,scZ,scS] at hax
      subst hax
      have HK:=Lh hK
      have h70:f 7=false:=by
       cases k:f 7 with
       | false=>rfl
       | true=>exact absurd (c7 k) (by rw [hf];decide)
      obtain ⟨Ap,cp,e5,o5⟩:=(hq h70).2.1 (deps_at (k:=0) rfl rfl rfl hd)
      have F5:=Lh o5
      subst e5
      clear h70 o5
      have P0:=Lh p0
      have P1:=Lh p1
      have P3:=Lh p3
      have P4:=Lh p4
      have HQ:=Lh hq
      have H7:=Lh h7
      have C7:=Lh c7
      clear hK p0 p1 p3 p4 hq h7 c7 hf hd
      go_simp
      go_wp2_with (go_at_call 93;refine (AC1.out _ _ w9.heap.size _ F5.out (Nat.le_trans B18.out hB.size)).mono ?_;rintro e w5 ⟨Ay,cy,rfl,ho,hg,hb⟩)
      exact HK.out _ _ ⟨s0,s1,s2,s3,s4,.slice Ap 1 cp,.slice Ay 2 cy,s7,(by simp only [Act.put,stA,scZ,scS]),hB.trans (hb.mono hB.size),fun h=>P0.out (more_of (by decide) h),fun h=>P1.out (more_of (by decide) h),fun h=>P3.out (more_of (by decide) h),fun h=>P4.out (more_of (by decide) h),fun h0=>⟨fun h=>(by obtain ⟨Ax,cx,e,o,g⟩:=(HQ.out (less_of (by decide) h0)).1 (more_of (by decide) h);exact ⟨Ax,cx,e,o.below hb,g⟩),fun h=>(by obtain ⟨Ap,cp,e,o⟩:=(HQ.out (less_of (by decide) h0)).2.1 (more_of (by decide) h);exact ⟨Ap,cp,e,o.below hb⟩),fun _=>⟨Ay,cy,rfl,ho⟩⟩,fun h=>(by obtain ⟨Az,cz,e,o⟩:=H7.out (more_of (by decide) h);exact ⟨Az,cz,e,o.below hb⟩),fun _=>(by simp)⟩
     ·intro f ax wx hJ hf hd K' hK
      obtain ⟨s0,s1,s2,s3,s4,s5,s6,s7,hax,hB,p0,p1,p3,p4,hq,h7,c7⟩:=hJ
      simp only [Act.put,stA,scZ,scS] at hax
      subst hax
      have HK:=Lh hK
      have hc7:=deps_at (k:=1) rfl rfl rfl hd
      obtain ⟨q2,_,q6⟩:=hq hf
      obtain ⟨Ax,cx,e2,o2,g2⟩:=q2 (deps_at (k:=0) rfl rfl rfl hd)
      obtain ⟨Ay,cy,e6,o6⟩:=q6 hc7
      have F2:=Lh o2
      have G2:=Lh g2
      have F6:=Lh o6
      subst e2
      subst e6
      clear q2 q6 o2 g2 o6
      have P0:=Lh p0
      have P1:=Lh p1
      have P3:=Lh p3
      have P4:=Lh p4
      have HQ:=Lh hq
      have H7:=Lh h7
      have C7:=Lh c7
      clear hK p0 p1 p3 p4 hq h7 c7 hf hd
      refine step_acts wx (by rfl) (.tmp 103) (.tmp 107) (by rfl) w9.heap.size Ax (kt + 1) cx LL (by rfl) F2.out Ay 2 cy LM (by rfl) F6.out (by decide) (by omega) (Nat.le_trans B18.out hB.size) w18.heap.size hB.size G2.out ?_
      intro Az cz w5 ho hb5
      exact HK.out _ _ ⟨s0,s1,.slice Ax (kt + 1) cx,s3,s4,s5,.slice Ay 2 cy,.slice Az (kt + 1 + 2) cz,(by simp only [List.getElem_toArray,List.getElem_cons_succ,List.getElem_cons_zero,Act.put,stA,scZ,scS]),hB.trans hb5,fun h=>P0.out (more_of (by decide) h),fun h=>P1.out (more_of (by decide) h),fun h=>P3.out (more_of (by decide) h),fun h=>P4.out (more_of (by decide) h),fun h0=>(by simp at h0),fun _=>⟨Az,cz,rfl,ho⟩,fun _=>keep_of hc7⟩
    ·intro f ax wx hall hJ fuel
     obtain ⟨s0,s1,s2,s3,s4,s5,s6,s7,hax,hB,p0,p1,p3,p4,hq,h7,c7⟩:=hJ
     simp only [Act.put,stA,scZ,scS] at hax
     have e0:=p0 (hall 0 (by decide))
     obtain ⟨Az,cz,e7,o7⟩:=h7 (hall 7 (by decide))
     subst e0
     subst e7
     subst hax
     have HX:=Lh (H18.out.trans (hB.mono H18.out.size))
     have OA:=Lh o7
     have OR:=Lh (O18.out.below hB)
     clear p0 p1 p3 p4 hq h7 c7 hall o7
     have hZ:=Z.out.below HX.out Z.out.lt
     obtain ⟨z0,z1,z2,z3,z4,z5⟩:=hZ.met
     have fz:=hZ.free
     change wpAny _ _ _ _ (fuel + 1 + 1) _ _ _
     refine wpAny_ready (rs:=[8]) (by kernel_rfl) (by simp) ?_
     refine AllReady.cons rfl (fun K hK=>?_) AllReady.nil
     have HK:=Lh hK
     clear hK
     go_simp
     refine HK.out _ _ ?_
     clear HK K
     clear z0 z1 z2 z3 z4 z5 fz
     refine wpAny_ready (rs:=[9]) (by kernel_rfl) (by simp) ?_
     refine AllReady.cons rfl (fun K hK=>?_) AllReady.nil
     have HK:=Lh hK
     clear hK
     go_simp
     refine HK.out _ _ ?_
     clear HK K
     refine wpAny_done (by kernel_rfl) ?_ _
     go_wp2
     obtain ⟨zz0,zz1,zz2,zz3,zz4,zz5⟩:=(hZ.sixM v (1 - a) N kt (u + 1) A2 kt x2).met
     obtain ⟨L7,a7,i7⟩:=(OA.out.boxSix hZ v (1 - a) N kt (u + 1) A2 kt x2).is
     refine bodyPost_ret (v:=.tuple #[metV v (1 - a) N kt (u + 1) A2 kt x2,.slice Az (kt + 1 + 2) cz]) ?_ rfl ⟨A2,x2,Az,cz,L7,rfl,OwnRecs.lower (OR.out.boxSix hZ v (1 - a) N kt (u + 1) A2 kt x2) BB.out.size,a7.lower (Nat.le_trans BB.out.size BZ.out),i7,below_sixM (BB.out.trans (HX.out.mono BB.out.size)) (by omega) v (1 - a) N kt (u + 1) A2 kt x2⟩
     clear OA OR a7 i7
     simp [results,Tryz.f57,go_sem,zz0,zz1,zz2,zz3,zz4,zz5]
theorem rnoted_any (P T A M W Q:Int) (D:Option Addr) (nd d:Nat) (D':Option Addr) (nd' d':Nat) (S:List Sec) (C:List Pnd) (v a g n u:Int) (B:Option Addr) (k c:Nat) (t:List Rc) (Ab:Option Addr) (nb cb:Nat) (b:Txt) (w:World) (hq:Dsk w D nd d D' nd' d' S C) (hs:SmallD S C) (hmT:mayT P T A M W Q S C) (hmM:mayM P T A M W Q ⟨(v,a,g),n,u,t⟩) (hi:isS (v,a,g)) (ht:Recs w B k c t) (hb:Arg w .u8 Ab nb cb b) (hby:∀ z ∈ b,isByte z) (t':List Rc) (hp:putR t b=some t') (hl:¬ n < A→u < 65535∧spE P T A M W Q S C (anewS ⟨(v,a,g),n,u,t⟩)=0) :
  Calls Tryz.prog 57 #[cfgV P T A M W Q,diskV D nd d D' nd' d',metV v a g n u B k c,.slice Ab nb cb] w (NoteOut w (cmM A ⟨(v,a,g),n,u,t⟩ t') (cmA P T A M W Q S C ⟨(v,a,g),n,u,t⟩ b t')):=by
 obtain ⟨_,har,hnn,huu,htb⟩:=hmM
 dsimp only at har hnn huu htb
 have hk:k≤100000:=by have h1:=three_of12 htb;have h2:=ht.len;omega
 have hnb:nb≤20:=by have h1:=note_len hp;have h2:=hb.len;omega
 have ha:0≤a∧a≤1:=by unfold arS at har;omega
 unfold cmM cmA
 dsimp only
 by_cases hn:n < A
 ·rw [if_pos hn,if_pos hn]
  exact rnoted_room P T A M W Q D nd d D' nd' d' S C v a g n u B k c t Ab nb cb b w hq hmT.1 hi ha hnn.1 hn ht hk hb hnb hby t' hp _ rfl _ rfl
 ·rw [if_neg hn,if_neg hn]
  obtain ⟨hu,hsp⟩:=hl hn
  rw [plP_is hsp]
  exact rnoted_anew P T A M W Q D nd d D' nd' d' S C v a g n u B k c t Ab nb cb b w hq hs hmT hi ha (by omega) ⟨huu.1,hu⟩ ht hk hb hnb hby t' hp _ rfl
end Go.Proofs.YtifgcfepbenpjaaGreat
