/- Texts of layers 1 to 12, joined. -/
import Derived.Test.YtifgcfepbenpjaaGreatNa47
import Derived.Deep.RegionHeld3
set_option maxRecDepth 100000
set_option maxHeartbeats 12800000
set_option linter.unusedVariables false
namespace Go.Proofs.YtifgcfepbenpjaaGreat
open Go.RowKit
theorem rcommit_full (P T A M W Q:Int) (D:Option Addr) (nd d:Nat) (D':Option Addr) (nd' d':Nat) (S:List Sec) (C:List Pnd) (v a g n u:Int) (B:Option Addr) (k c:Nat) (t:List Rc) (Ab:Option Addr) (nb cb:Nat) (b:Txt) (w:World) (hq:Dsk w D nd d D' nd' d' S C) (hs:SmallD S C) (ht:Recs w B k c t) (hk:k≤100000) (hb:Arg w .u8 Ab nb cb b) (hby:∀ z ∈ b,isByte z)
  (h0:boE P T A M W Q S C ⟨(v,a,g),n,u,t⟩=0) (h4:ansE (putR t b)=0) (hn:A≤n) (hu:u=65535) :
  Calls Tryz.prog 27 #[cfgV P T A M W Q,diskV D nd d D' nd' d',metV v a g n u B k c,.slice Ab nb cb] w (PlanOut12 w (cmO P T A M W Q S C ⟨(v,a,g),n,u,t⟩ b) (cmL P T A M W Q S C ⟨(v,a,g),n,u,t⟩ b) (cmE P T A M W Q S C ⟨(v,a,g),n,u,t⟩ b)):=by
 obtain ⟨x,hbel⟩:=MBox.new P T A M W Q v a g n u hq ht
 obtain ⟨z,h2⟩:=met_box (((w.alloc (.cells #[.int .i64 P,.int .i64 T,.int .i64 A,.int .i64 M,.int .i64 W,.int .i64 Q] 36)).alloc (.cells #[.slice D nd d,.slice D' nd' d'] 25)).alloc (.cells #[.int .u32 v,.int .i64 a,.int .u64 g,.int .i64 n,.int .i64 u,.slice B k c] 32)) 0 0 0 0 0 none 0 0
 rw [World.size_alloc,World.size_alloc,World.size_alloc] at z
 have x:=x.below h2
 obtain ⟨w0,hw0⟩:∃ x:World,x=((((w.alloc (.cells #[.int .i64 P,.int .i64 T,.int .i64 A,.int .i64 M,.int .i64 W,.int .i64 Q] 36)).alloc (.cells #[.slice D nd d,.slice D' nd' d'] 25)).alloc (.cells #[.int .u32 v,.int .i64 a,.int .u64 g,.int .i64 n,.int .i64 u,.slice B k c] 32)).alloc (.cells #[.int .u32 0,.int .i64 0,.int .u64 0,.int .i64 0,.int .i64 0,.slice none 0 0] 32)):=⟨_,rfl⟩
 rw [← hw0] at x z h2
 have X:=Lh x
 have Z:=Lh z
 have BB:=Lh (hbel.trans (h2.mono hbel.size))
 have BO:=Lh (fun wx hx hy=>rboth12_any P T A M W Q v a g n u D nd d D' nd' d' S C B k c t wx hx hs hy hk)
 obtain ⟨⟨c0,c1,c2,c3,c4,c5,c6,c7⟩,d0,d1,d2,d3,d4,d5⟩:=x.cells
 clear x z h2 hbel
 have hE:cmE P T A M W Q S C ⟨(v,a,g),n,u,t⟩ b=9:=by
  unfold cmE cmE0
  rw [if_pos h0,if_pos h4,if_neg (by show ¬ n < A;omega)]
  exact if_pos hu
 unfold cmO cmL
 rw [hE,if_neg (by decide),if_neg (by decide)]
 have PB:=Lh (hb.below BB.out)
 have PU:=Lh (fun wx hx hy=>rput11_any B k c t Ab nb cb b wx hx hk hy hby)
 unfold PutOut at PU
 rw [h4] at PU
 rw [h0] at BO
 subst hu
 clear hE h0 h4 hq hs ht hk hb hby
 go_enter Tryz.func27,Tryz.ntmps27
 go_wp2_with fail
 rw [← hw0]
 clear hw0
 refine (BO.out _ X.out.two.dsk.dsk X.out.tab).mono ?_
 rintro e1 w1 ⟨rfl,hb⟩
 have BB:=Lh (BB.out.trans (hb.mono BB.out.size))
 have X:=Lh (X.out.below hb)
 have Z:=Lh (Z.out.below hb Z.out.lt)
 have PB:=Lh (PB.out.below hb)
 clear hb BO c0 c1 c2 c3 c4 c5 c6 c7 d0 d1 d2 d3 d4 d5
 obtain ⟨⟨c0,c1,c2,c3,c4,c5,c6,c7⟩,d0,d1,d2,d3,d4,d5⟩:=X.out.cells
 go_wp2_with fail
 refine (PU.out _ X.out.tab PB.out).mono ?_
 rintro e1 w2 ⟨A2,x2,rfl,hown,hb⟩
 have BB:=Lh (BB.out.trans (hb.mono BB.out.size))
 have X:=Lh (X.out.below hb)
 have Z:=Lh (Z.out.below hb Z.out.lt)
 clear hb hown PU c0 c1 c2 c3 c4 c5 c6 c7 d0 d1 d2 d3 d4 d5
 obtain ⟨⟨c0,c1,c2,c3,c4,c5,c6,c7⟩,d0,d1,d2,d3,d4,d5⟩:=X.out.cells
 have fz:=Z.out.free
 obtain ⟨e0,e1,e2,e3,e4,e5⟩:=Z.out.met
 go_wp2
 obtain ⟨z0,z1,z2,z3,z4,z5⟩:=(Z.out.sixM 0 0 0 0 0 none 0 0).met
 refine bodyPost_ret (v:=.tuple #[metV 0 0 0 0 0 none 0 0,.slice none 0 0,.int .i64 9]) ?_ rfl ⟨none,0,none,0,[],rfl,OwnRecs.nil _ _,OwnAcs.nil _ _,AxIs.nil _,below_sixM BB.out (by omega) 0 0 0 0 0 none 0 0⟩
 clear fz e0 e1 e2 e3 e4 e5 c0 c1 c2 c3 c4 c5 c6 c7 d0 d1 d2 d3 d4 d5
 simp [results,Tryz.f27,go_sem,z0,z1,z2,z3,z4,z5]
theorem rcommit_sup (P T A M W Q:Int) (D:Option Addr) (nd d:Nat) (D':Option Addr) (nd' d':Nat) (S:List Sec) (C:List Pnd) (v a g n u:Int) (B:Option Addr) (k c:Nat) (t:List Rc) (Ab:Option Addr) (nb cb:Nat) (b:Txt) (w:World) (hq:Dsk w D nd d D' nd' d' S C) (hs:SmallD S C) (ht:Recs w B k c t) (hk:k≤100000) (hb:Arg w .u8 Ab nb cb b) (hby:∀ z ∈ b,isByte z)
  (h0:boE P T A M W Q S C ⟨(v,a,g),n,u,t⟩=0) (h4:ansE (putR t b)=0) (hn:A≤n) (hu:0≤u∧u < 65535) (hi:isS (v,a,g)) (har:arS a) (h9:spE P T A M W Q S C (anewS ⟨(v,a,g),n,u,t⟩)≠0) :
  Calls Tryz.prog 27 #[cfgV P T A M W Q,diskV D nd d D' nd' d',metV v a g n u B k c,.slice Ab nb cb] w (PlanOut12 w (cmO P T A M W Q S C ⟨(v,a,g),n,u,t⟩ b) (cmL P T A M W Q S C ⟨(v,a,g),n,u,t⟩ b) (cmE P T A M W Q S C ⟨(v,a,g),n,u,t⟩ b)):=by
 obtain ⟨x,hbel⟩:=MBox.new P T A M W Q v a g n u hq ht
 obtain ⟨z,h2⟩:=met_box (((w.alloc (.cells #[.int .i64 P,.int .i64 T,.int .i64 A,.int .i64 M,.int .i64 W,.int .i64 Q] 36)).alloc (.cells #[.slice D nd d,.slice D' nd' d'] 25)).alloc (.cells #[.int .u32 v,.int .i64 a,.int .u64 g,.int .i64 n,.int .i64 u,.slice B k c] 32)) 0 0 0 0 0 none 0 0
 rw [World.size_alloc,World.size_alloc,World.size_alloc] at z
 have x:=x.below h2
 obtain ⟨w0,hw0⟩:∃ x:World,x=((((w.alloc (.cells #[.int .i64 P,.int .i64 T,.int .i64 A,.int .i64 M,.int .i64 W,.int .i64 Q] 36)).alloc (.cells #[.slice D nd d,.slice D' nd' d'] 25)).alloc (.cells #[.int .u32 v,.int .i64 a,.int .u64 g,.int .i64 n,.int .i64 u,.slice B k c] 32)).alloc (.cells #[.int .u32 0,.int .i64 0,.int .u64 0,.int .i64 0,.int .i64 0,.slice none 0 0] 32)):=⟨_,rfl⟩
 rw [← hw0] at x z h2
 have X:=Lh x
 have Z:=Lh z
 have BB:=Lh (hbel.trans (h2.mono hbel.size))
 have BO:=Lh (fun wx hx hy=>rboth12_any P T A M W Q v a g n u D nd d D' nd' d' S C B k c t wx hx hs hy hk)
 obtain ⟨⟨c0,c1,c2,c3,c4,c5,c6,c7⟩,d0,d1,d2,d3,d4,d5⟩:=x.cells
 clear x z h2 hbel
 have hE:cmE P T A M W Q S C ⟨(v,a,g),n,u,t⟩ b=spE P T A M W Q S C (anewS ⟨(v,a,g),n,u,t⟩):=by
  unfold cmE cmE0
  rw [if_pos h0,if_pos h4,if_neg (by show ¬ n < A;omega)]
  exact if_neg (by show ¬ u=65535;omega)
 unfold cmO cmL
 rw [hE,if_neg h9,if_neg h9]
 have hv0:0≤v∧v < 4294967296:=hi.1
 have ha01:0≤a∧a≤1:=by unfold arS at har;omega
 have hg2:0≤65536 * v + u + 1∧65536 * v + u + 1 < 18446744073709551616:=by omega
 have NX:=Lh (fun wx=>rnext_any v a g n u B k c wx hv0 ⟨hu.1,by omega⟩)
 have PN:=Lh (fun wx hx=>rplan9_any P T A M W Q D nd d D' nd' d' S C v (1 - a) (65536 * v + u + 1) wx hx hs ⟨hv0,hg2⟩)
 unfold RPlan at PN
 obtain ⟨e,he⟩:∃ y,y=spE P T A M W Q S C (anewS ⟨(v,a,g),n,u,t⟩):=⟨_,rfl⟩
 rw [← he] at h9 ⊢
 rw [show spE P T A M W Q S C (v,1 - a,65536 * v + u + 1)=e from he.symm] at PN
 have hne:(e != 0)=true:=by simpa using h9
 obtain ⟨g2,hge⟩:∃ y,y=65536 * v + u + 1:=⟨_,rfl⟩
 rw [← hge] at NX PN hg2
 obtain ⟨sl,hsl⟩:∃ y,y=spL P T A M W Q S C (v,1 - a,g2):=⟨_,rfl⟩
 rw [← hsl] at PN
 obtain ⟨hu0,hu1⟩:=hu
 obtain ⟨ha0,ha1⟩:=ha01
 have hwa:IntKind.i64.wrap (1 - a)=1 - a:=wrap_i64_byte ⟨by omega,by omega⟩
 have PB:=Lh (hb.below BB.out)
 have PU:=Lh (fun wx hx hy=>rput11_any B k c t Ab nb cb b wx hx hk hy hby)
 unfold PutOut at PU
 rw [h4] at PU
 rw [h0] at BO
 clear hE h0 h4 he hge hsl h9 hi har hq hs ht hk hb hby
 go_enter Tryz.func27,Tryz.ntmps27
 go_wp2_with fail
 rw [← hw0]
 clear hw0
 refine (BO.out _ X.out.two.dsk.dsk X.out.tab).mono ?_
 rintro e1 w1 ⟨rfl,hb⟩
 have BB:=Lh (BB.out.trans (hb.mono BB.out.size))
 have X:=Lh (X.out.below hb)
 have Z:=Lh (Z.out.below hb Z.out.lt)
 have PB:=Lh (PB.out.below hb)
 clear hb BO c0 c1 c2 c3 c4 c5 c6 c7 d0 d1 d2 d3 d4 d5
 obtain ⟨⟨c0,c1,c2,c3,c4,c5,c6,c7⟩,d0,d1,d2,d3,d4,d5⟩:=X.out.cells
 go_wp2_with fail
 refine (PU.out _ X.out.tab PB.out).mono ?_
 rintro e1 w2 ⟨A2,x2,rfl,hown,hb⟩
 have BB:=Lh (BB.out.trans (hb.mono BB.out.size))
 have X:=Lh (X.out.below hb)
 have Z:=Lh (Z.out.below hb Z.out.lt)
 clear hb hown PU c0 c1 c2 c3 c4 c5 c6 c7 d0 d1 d2 d3 d4 d5
 obtain ⟨⟨c0,c1,c2,c3,c4,c5,c6,c7⟩,d0,d1,d2,d3,d4,d5⟩:=X.out.cells
 go_upto_region 10 with fail
 clear c0 c1 c2 c3 c4 c5 c6 c7 d0 d1 d2 d3 d4 d5
 have hcur:Below w2.heap.size w2 w2.drew:=below_drewN (Below.refl _ _) 1
 have keepX:∀ wx,Below w2.heap.size w2 wx→wx.cell? ⟨w.heap.size,0,none⟩=some (.int .i64 P)∧wx.cell? ⟨w.heap.size,1,none⟩=some (.int .i64 T)∧wx.cell? ⟨w.heap.size,2,none⟩=some (.int .i64 A)∧wx.cell? ⟨w.heap.size,3,none⟩=some (.int .i64 M)∧wx.cell? ⟨w.heap.size,4,none⟩=some (.int .i64 W)∧wx.cell? ⟨w.heap.size,5,none⟩=some (.int .i64 Q)∧wx.cell? ⟨w.heap.size + 1,0,none⟩=some (.slice D nd d)∧wx.cell? ⟨w.heap.size + 1,1,none⟩=some (.slice D' nd' d')∧wx.cell? ⟨w.heap.size + 2,0,none⟩=some (.int .u32 v)∧wx.cell? ⟨w.heap.size + 2,1,none⟩=some (.int .i64 a)∧wx.cell? ⟨w.heap.size + 2,2,none⟩=some (.int .u64 g)∧wx.cell? ⟨w.heap.size + 2,3,none⟩=some (.int .i64 n)∧wx.cell? ⟨w.heap.size + 2,4,none⟩=some (.int .i64 u)∧wx.cell? ⟨w.heap.size + 2,5,none⟩=some (.slice B k c):=fun wx hx=>by
  obtain ⟨⟨c0,c1,c2,c3,c4,c5,c6,c7⟩,d0,d1,d2,d3,d4,d5⟩:=(X.out.below hx).cells
  exact ⟨c0,c1,c2,c3,c4,c5,c6,c7,d0,d1,d2,d3,d4,d5⟩
 have hkX:=keepX _ hcur
 go_region_held3 (fun w'=>w'.cell? ⟨w.heap.size,0,none⟩=some (.int .i64 P)∧w'.cell? ⟨w.heap.size,1,none⟩=some (.int .i64 T)∧w'.cell? ⟨w.heap.size,2,none⟩=some (.int .i64 A)∧w'.cell? ⟨w.heap.size,3,none⟩=some (.int .i64 M)∧w'.cell? ⟨w.heap.size,4,none⟩=some (.int .i64 W)∧w'.cell? ⟨w.heap.size,5,none⟩=some (.int .i64 Q)∧w'.cell? ⟨w.heap.size + 1,0,none⟩=some (.slice D nd d)∧w'.cell? ⟨w.heap.size + 1,1,none⟩=some (.slice D' nd' d')∧w'.cell? ⟨w.heap.size + 2,0,none⟩=some (.int .u32 v)∧w'.cell? ⟨w.heap.size + 2,1,none⟩=some (.int .i64 a)∧w'.cell? ⟨w.heap.size + 2,2,none⟩=some (.int .u64 g)∧w'.cell? ⟨w.heap.size + 2,3,none⟩=some (.int .i64 n)∧w'.cell? ⟨w.heap.size + 2,4,none⟩=some (.int .i64 u)∧w'.cell? ⟨w.heap.size + 2,5,none⟩=some (.slice B k c))
  (first | exact hkX | go_keep)
  (first
   | (go_at_call 56;with_reducible refine (NX.out _).mono ?_;rintro e1 w3 ⟨rfl,hb⟩;have hcur:=hcur.trans (hb.mono hcur.size);have hkX:=keepX _ hcur)
   | (go_at_call 53;with_reducible refine (PN.out _ (X.out.below hcur).two.dsk.dsk).mono ?_;rintro e1 w4 ⟨A5,x5,rfl,hP,hb⟩;have hcur:=hcur.trans (hb.mono hcur.size);have hkX:=keepX _ hcur))
 all_goals (
  have BB:=Lh (BB.out.trans (hcur.mono BB.out.size))
  have Z:=Lh (Z.out.below hcur Z.out.lt)
  clear hkX keepX hcur
  have fz:=Z.out.free
  obtain ⟨e0,e1,e2,e3,e4,e5⟩:=Z.out.met
  go_wp2
  obtain ⟨z0,z1,z2,z3,z4,z5⟩:=(Z.out.sixM 0 0 0 0 0 none 0 0).met
  refine bodyPost_ret (v:=.tuple #[metV 0 0 0 0 0 none 0 0,.slice none 0 0,.int .i64 e]) ?_ rfl ⟨none,0,none,0,[],rfl,OwnRecs.nil _ _,OwnAcs.nil _ _,AxIs.nil _,below_sixM BB.out (by omega) 0 0 0 0 0 none 0 0⟩
  clear fz e0 e1 e2 e3 e4 e5
  simp [results,Tryz.f27,go_sem,z0,z1,z2,z3,z4,z5])
theorem Blk.two_ {w:World} {G:Nat} {t:TypeId} {x y:Value} (h:Blk w G t [x,y]):w.cell? ⟨G,0,none⟩=some x∧w.cell? ⟨G,1,none⟩=some y:=⟨h.cell 0,h.cell 1⟩
theorem OwnRecs.boxD {w:World} {base H:Nat} {A:Option Addr} {n c:Nat} {L:List Rc} {cs:List Value} (h:OwnRecs w base A n c L) (hb:Blk w H 25 cs) (i:Nat) (u:Value):OwnRecs (w.setCell ⟨H,i,none⟩ u) base A n c L :=
 h.keep fun g cs' _ hc=>Below.heap_setCell w _ u g fun e2=>by
  have e3:g=H:=e2
  subst e3
  unfold Blk at hb
  rw [hb] at hc
  simp at hc
theorem Blk.sixOff {w:World} {H G:Nat} {t:TypeId} {cs:List Value} (h:Blk w H t cs) (hne:H≠G) (v a g n u:Int) (B:Option Addr) (k c:Nat):Blk ((((((w.setCell ⟨G,0,none⟩ (.int .u32 v)).setCell ⟨G,1,none⟩ (.int .i64 a)).setCell ⟨G,2,none⟩ (.int .u64 g)).setCell ⟨G,3,none⟩ (.int .i64 n)).setCell ⟨G,4,none⟩ (.int .i64 u)).setCell ⟨G,5,none⟩ (.slice B k c)) H t cs :=
 (((((h.away hne 0 _).away hne 1 _).away hne 2 _).away hne 3 _).away hne 4 _).away hne 5 _
theorem OwnDsk.boxM {w:World} {base H:Nat} {A A':Option Addr} {n c n' c':Nat} {S:List Sec} {C:List Pnd} {cs:List Value} (h:OwnDsk w base A n c A' n' c' S C) (hb:Blk w H 32 cs) (i:Nat) (u:Value):OwnDsk (w.setCell ⟨H,i,none⟩ u) base A n c A' n' c' S C :=
 ⟨h.secs.box hb (by decide) (by decide) i u,h.pnds.box hb (by decide) (by decide) i u⟩
theorem OwnDsk.sixM {w:World} {base H:Nat} {A A':Option Addr} {m d m' d':Nat} {S:List Sec} {C:List Pnd} {v' a' g' n' u':Int} {B':Option Addr} {k' c':Nat} (h:OwnDsk w base A m d A' m' d' S C) (hb:Blk w H 32 (metL v' a' g' n' u' B' k' c')) (v a g n u:Int) (B:Option Addr) (k c:Nat):OwnDsk ((((((w.setCell ⟨H,0,none⟩ (.int .u32 v)).setCell ⟨H,1,none⟩ (.int .i64 a)).setCell ⟨H,2,none⟩ (.int .u64 g)).setCell ⟨H,3,none⟩ (.int .i64 n)).setCell ⟨H,4,none⟩ (.int .i64 u)).setCell ⟨H,5,none⟩ (.slice B k c)) base A m d A' m' d' S C :=
 (((((h.boxM hb 0 _).boxM (hb.set 0 _) 1 _).boxM ((hb.set 0 _).set 1 _) 2 _).boxM (((hb.set 0 _).set 1 _).set 2 _) 3 _).boxM ((((hb.set 0 _).set 1 _).set 2 _).set 3 _) 4 _).boxM (((((hb.set 0 _).set 1 _).set 2 _).set 3 _).set 4 _) 5 _
theorem Blk.apart {w:World} {a b:Nat} {t t':TypeId} {cs cs':List Value} (h:Blk w a t cs) (h':Blk w b t' cs') (ht:t≠t'):¬ a=b:=fun e=>by
 subst e
 exact ht (h.ty h')
theorem OwnActs.boxM {w:World} {base H:Nat} {A:Option Addr} {n c:Nat} {l:List Ac} {cs:List Value} (h:OwnActs w base A n c l) (hb:Blk w H 32 cs) (i:Nat) (u:Value):OwnActs (w.setCell ⟨H,i,none⟩ u) base A n c l :=
 h.keep fun g e cs' he _ hc=>Below.heap_setCell w _ u g fun e2=>by
  have e3:g=H:=e2
  subst e3
  unfold Blk at hb
  rw [hb] at hc
  rcases he with rfl | rfl <;> simp at hc
theorem OwnActs.boxSix {w:World} {base H:Nat} {A:Option Addr} {m d:Nat} {l:List Ac} {v' a' g' n' u':Int} {B':Option Addr} {k' c':Nat} (h:OwnActs w base A m d l) (hb:Blk w H 32 (metL v' a' g' n' u' B' k' c')) (v a g n u:Int) (B:Option Addr) (k c:Nat):OwnActs ((((((w.setCell ⟨H,0,none⟩ (.int .u32 v)).setCell ⟨H,1,none⟩ (.int .i64 a)).setCell ⟨H,2,none⟩ (.int .u64 g)).setCell ⟨H,3,none⟩ (.int .i64 n)).setCell ⟨H,4,none⟩ (.int .i64 u)).setCell ⟨H,5,none⟩ (.slice B k c)) base A m d l :=
 (((((h.boxM hb 0 _).boxM (hb.set 0 _) 1 _).boxM ((hb.set 0 _).set 1 _) 2 _).boxM (((hb.set 0 _).set 1 _).set 2 _) 3 _).boxM ((((hb.set 0 _).set 1 _).set 2 _).set 3 _) 4 _).boxM (((((hb.set 0 _).set 1 _).set 2 _).set 3 _).set 4 _) 5 _
end Go.Proofs.YtifgcfepbenpjaaGreat
