/- Texts of the layers below, joined. -/
import Derived.Test.YtdbeiikaeccbhaaDa33
import Derived.Defers
set_option maxRecDepth 100000
set_option maxHeartbeats 12800000
set_option linter.unusedVariables false
namespace Go.Proofs.Ytdbeiikaeccbhaa
open Go.RowKit
set_option maxRecDepth 100000
theorem OwnAcs.not_blk {w:World} {base g n c:Nat} {A:Option Addr} {L:List Ax} {t:TypeId} {cs:List Value} (h:OwnAcs w base A n c L) (hb:Blk w g t cs) (ht:t≠45):some g≠(Value.slice A n c).ownBlock:=by
 intro e
 rcases h.1.2 with ⟨e2,_⟩ | ⟨g2,cap,cur,e2,_,hg2,_⟩
 ·rw [e2] at e
  simp [Value.ownBlock] at e
 ·rw [e2] at e
  have e3:g=g2:=by simpa [Value.ownBlock] using e
  subst e3
  unfold Blk at hb
  rw [hb] at hg2
  simp at hg2
  exact ht hg2.2
structure WrBox (w:World) (G V gx nx:Nat) (P T A M W Q p:Int) (D:Option Addr) (n c:Nat) (k b1:Int) (A0:Option Addr) (n0 c0:Nat):Prop where
 l:Blk w G 23 [.slice A0 n0 c0]
 v:Blk w V 72 (volL P T A M W Q p D n c)
 n:Blk w nx 3 [.int .i64 k]
 g:Blk w gx 5 [.int .u8 b1]
section
variable {w w':World} {G V gx nx:Nat} {P T A M W Q p:Int} {D:Option Addr} {n c:Nat} {k b1:Int} {A0:Option Addr} {n0 c0:Nat}
theorem WrBox.below (x:WrBox w G V gx nx P T A M W Q p D n c k b1 A0 n0 c0) (hb:Below w.heap.size w w'):WrBox w' G V gx nx P T A M W Q p D n c k b1 A0 n0 c0:=⟨x.l.below hb x.l.lt,x.v.below hb x.v.lt,x.n.below hb x.n.lt,x.g.below hb x.g.lt⟩
theorem WrBox.grown (x:WrBox w G V gx nx P T A M W Q p D n c k b1 A0 n0 c0) {base n1 c1:Nat} {A1:Option Addr} {L:List Ax} (h:OwnAcs w base A1 n1 c1 L) (hg:w.grownBy w' (Value.slice A1 n1 c1).ownBlock):WrBox w' G V gx nx P T A M W Q p D n c k b1 A0 n0 c0 :=
 ⟨x.l.grown hg (h.not_blk x.l (by decide)),x.v.grown hg (h.not_blk x.v (by decide)),x.n.grown hg (h.not_blk x.n (by decide)),x.g.grown hg (h.not_blk x.g (by decide))⟩
theorem WrBox.cells (x:WrBox w G V gx nx P T A M W Q p D n c k b1 A0 n0 c0):w.cell? ⟨G,0,none⟩=some (.slice A0 n0 c0)∧w.cell? ⟨V,0,none⟩=some (.int .i64 P)∧w.cell? ⟨V,1,none⟩=some (.int .i64 T)∧w.cell? ⟨V,2,none⟩=some (.int .i64 A)∧w.cell? ⟨V,3,none⟩=some (.int .i64 M)∧w.cell? ⟨V,4,none⟩=some (.int .i64 W)∧w.cell? ⟨V,5,none⟩=some (.int .i64 Q)∧w.cell? ⟨V,6,none⟩=some (.int .i64 p)∧w.cell? ⟨V,7,none⟩=some (.slice D n c)∧w.cell? ⟨nx,0,none⟩=some (.int .i64 k)∧w.cell? ⟨gx,0,none⟩=some (.int .u8 b1) :=
 ⟨x.l.cell 0,x.v.cell 0,x.v.cell 1,x.v.cell 2,x.v.cell 3,x.v.cell 4,x.v.cell 5,x.v.cell 6,x.v.cell 7,x.n.cell 0,x.g.cell 0⟩
end
theorem pgSec_byte {P T A M W Q p k b:Int} (h:pgeE P T A M W Q p k=0) (hb:isByte b):∀ z ∈ pgSec p k b,isByte z:=by
 obtain ⟨h1,h2⟩:=pge_byte h
 intro z hz
 unfold pgSec at hz
 rcases List.mem_append.1 hz with hz | hz
 ·simp only [List.mem_cons,List.not_mem_nil,or_false] at hz
  rcases hz with rfl | rfl | rfl | rfl
  ·exact ⟨by decide,by decide⟩
  ·exact h1
  ·exact h2
  ·exact hb
 ·rw [List.eq_of_mem_replicate hz]
  exact ⟨by decide,by decide⟩
theorem pdefer_any (G B V gx hx nx:Nat) (P T A M W Q p:Int) (D:Option Addr) (n c:Nat) (k b0 b1:Int) (l:List Ac) (w:World) (hc:CollB w G B l) (hB:B≤w.heap.size) (xv:Blk w V 72 (volL P T A M W Q p D n c)) (xn:Blk w nx 3 [.int .i64 k]) (xg:Blk w gx 5 [.int .u8 b1]) (xh:Blk w hx 5 [.int .u8 b0])
  (hl:l.length≤100) (hok:b1≠b0→pgeE P T A M W Q p k=0∧subP b1 (fulP T k.toNat)∧isByte b1) :
  CallsD Try.prog 52 #[.pointer (some ⟨gx,0,none⟩),.pointer (some ⟨hx,0,none⟩),.pointer (some ⟨G,0,none⟩),.pointer (some ⟨V,0,none⟩),.pointer (some ⟨nx,0,none⟩)] .returning w fun e u' w'=>u'=.returning∧(e=.returned (.tuple #[])∧CollOut w G B (if b1=b0 then l else l ++ [(1,atP T A p k,pgSec p k b1)]) w'):=by
 have g0:=xg.cell 0
 have h0:=xh.cell 0
 simp only [gcZ] at g0 h0
 by_cases hq:b1=b0
 ·rw [if_pos hq]
  have CO:=Lh (CollOut.of hc (Below.refl w.heap.size w))
  have hqb:(b1 != b0)=false:=by rw [hq];simp
  clear hc hB xv xn xg xh hl hok hq
  go_enter_d Try.func52,Try.ntmps52
  go_wp2
  first | go_end0 | refine bodyPost_ret (results_none rfl _ _ _) rfl ?_
  exact ⟨rfl,CO.out⟩
 ·rw [if_neg hq]
  obtain ⟨e0,es,eb⟩:=hok hq
  have HC:=Lh hc
  obtain ⟨hGB,A0,n0,c0,hbx,L,h2,h3,h4,h5⟩:=hc
  have SE:=Lh (fun wx=>pvwrite_any P T A M W Q p D n c k b1 wx e0 es eb)
  have BY:=Lh (pgSec_byte e0 eb)
  obtain ⟨Y,hY⟩:∃ y,y=pgSec p k b1:=⟨_,rfl⟩
  obtain ⟨x,hx0⟩:∃ y,y=atP T A p k:=⟨_,rfl⟩
  rw [← hY] at SE BY ⊢
  rw [← hx0] at SE ⊢
  have X:=Lh (show WrBox w G V gx nx P T A M W Q p D n c k b1 A0 n0 c0 from ⟨hbx,xv,xn,xg⟩)
  have OL:=Lh h2
  have H3:=Lh h3
  have H4:=Lh h4
  have H5:=Lh h5
  have HB:=Lh hB
  have HGB:=Lh hGB
  have HN:=Lh (show n0≤100 by omega)
  have hqb:(b1 != b0)=true:=bne_iff_ne.2 hq
  clear hbx h2 h3 h4 h5 hB hGB xv xn xg xh hl hok hq e0 es eb hY hx0
  go_enter_d Try.func52,Try.ntmps52
  go_wp2_with fail
  clear g0 h0
  have hcur:Below w.heap.size w w.drew:=below_drewN (Below.refl _ _) 1
  have hHeld:=(X.out.below hcur).cells
  refine wp_region_to 7 (fun w'=>w'.cell? ⟨G,0,none⟩=some (.slice A0 n0 c0)∧w'.cell? ⟨V,0,none⟩=some (.int .i64 P)∧w'.cell? ⟨V,1,none⟩=some (.int .i64 T)∧w'.cell? ⟨V,2,none⟩=some (.int .i64 A)∧w'.cell? ⟨V,3,none⟩=some (.int .i64 M)∧w'.cell? ⟨V,4,none⟩=some (.int .i64 W)∧w'.cell? ⟨V,5,none⟩=some (.int .i64 Q)∧w'.cell? ⟨V,6,none⟩=some (.int .i64 p)∧w'.cell? ⟨V,7,none⟩=some (.slice D n c)∧w'.cell? ⟨nx,0,none⟩=some (.int .i64 k)∧w'.cell? ⟨gx,0,none⟩=some (.int .u8 b1)) (by kernel_rfl) ?_
  refine wpAnyG_take (i:=0) (v:=?_) rfl (by kernel_rfl) (by kernel_rfl) (by kernel_rfl) (by kernel_rfl) (by kernel_rfl) rfl (fun _ _ _ h=>h) (Or.inl ⟨by rfl,?_⟩) hHeld ?_
  rotate_left
  ·(intro w' hSw;(try dsimp only at hSw);go_simp;(try with_reducible rfl))
  simp only [Act.put,stA]
  refine wpAnyG_take (i:=1) (v:=?_) rfl (by kernel_rfl) (by kernel_rfl) (by kernel_rfl) (by kernel_rfl) (by kernel_rfl) rfl (fun _ _ _ h=>h) (Or.inl ⟨by rfl,?_⟩) hHeld ?_
  rotate_left
  ·(intro w' hSw;(try dsimp only at hSw);go_simp;(try with_reducible rfl))
  simp only [Act.put]
  refine wpAnyG_take (i:=2) (v:=?_) rfl (by kernel_rfl) (by kernel_rfl) (by kernel_rfl) (by kernel_rfl) (by kernel_rfl) rfl (fun _ _ _ h=>h) (Or.inl ⟨by rfl,?_⟩) hHeld ?_
  rotate_left
  ·(intro w' hSw;(try dsimp only at hSw);go_simp;(try with_reducible rfl))
  simp only [Act.put]
  refine wpAnyG_take (i:=3) (v:=?_) rfl (by kernel_rfl) (by kernel_rfl) (by kernel_rfl) (by kernel_rfl) (by kernel_rfl) rfl (fun _ _ _ h=>h) (Or.inl ⟨by rfl,?_⟩) hHeld ?_
  rotate_left
  ·(intro w' hSw;(try dsimp only at hSw);go_simp;(try with_reducible rfl))
  simp only [Act.put]
  refine wpAnyG_one (i:=4) (by kernel_rfl) rfl (fun K hK=>?_)
  go_simp
  go_at_call 53
  refine (SE.out _).mono ?_
  rintro e w4 ⟨A9,c9,rfl,hown,hb4⟩
  have hcur4:=hcur.trans (hb4.mono hcur.size)
  have X4:=Lh (X.out.below hcur4)
  have L4:=Lh (OL.out.below hcur4)
  have T4:=Lh ((OwnTxt.of hown).lower (Nat.le_trans HB.out hcur.size))
  refine hK.out _ _ (fun _=>X4.out.cells) (fun hHeld=>?_)
  have hHeld:=hHeld (by decide)
  clear hK K
  try simp only [Act.put,stA,scZ,scS]
  refine wpAnyG_one (i:=5) (by kernel_rfl) rfl (fun K hK=>?_)
  go_simp
  refine hK.out _ _ (fun _=>(X4.out.below ((Below.refl _ _).alloc (Nat.le_refl _) _)).cells) (fun hHeld=>?_)
  have hHeld:=hHeld (by decide)
  clear hK K
  try simp only [Act.put,stA,scZ,scS]
  refine wpAnyG_one (i:=6) (by kernel_rfl) rfl (fun K hK=>?_)
  refine step_acs_g w4 (by rfl) (.tmp 8) (.tmp 13) (by rfl) B A0 n0 c0 L (by rfl) L4.out (1,x,A9,32,c9) (by rfl) (by have:=HN.out;omega) (Nat.le_trans HB.out hcur4.size) ?_
  intro A6 c6 w6 hown6 hb6 hg6
  have X6:=Lh (X4.out.grown L4.out hg6)
  refine hK.out _ _ (fun _=>X6.out.cells) (fun hHeld=>?_)
  have hHeld:=hHeld (by decide)
  clear hK K
  try simp only [Act.put,stA]
  have z7:=X6.out.l.cell 0
  have f7:=X6.out.l.free 0
  simp only [gcZ] at z7
  refine wpAnyG_one (i:=7) (by kernel_rfl) rfl (fun K hK=>?_)
  go_simp
  refine hK.out _ _ (fun h=>absurd rfl h) (fun _=>?_)
  clear hK K
  refine wpAnyG_done (by kernel_rfl) ?_ _
  go_wp2
  first | go_end0 | refine bodyPost_ret (results_none rfl _ _ _) rfl ?_
  exact ⟨rfl,(CollOut.of HC.out hcur4).trans (coll_more HGB.out X4.out.l L4.out H3.out H4.out (fun i hi=>⟨(H5.out i hi).1,(H5.out i hi).2.1,(H5.out i hi).2.2.below hcur4⟩) T4.out BY.out hown6 hb6 hg6)⟩
set_option maxRecDepth 100000
theorem box_put (w:World) (k b0:Int) :
  Blk (((w.alloc (.cells #[.int .i64 k] 3)).alloc (.cells #[.int .u8 b0] 5)).alloc (.cells #[.int .u8 0] 5)) w.heap.size 3 [.int .i64 k] ∧
  Blk (((w.alloc (.cells #[.int .i64 k] 3)).alloc (.cells #[.int .u8 b0] 5)).alloc (.cells #[.int .u8 0] 5)) (w.heap.size + 1) 5 [.int .u8 b0] ∧
  Blk (((w.alloc (.cells #[.int .i64 k] 3)).alloc (.cells #[.int .u8 b0] 5)).alloc (.cells #[.int .u8 0] 5)) (w.heap.size + 2) 5 [.int .u8 0] ∧
  Below w.heap.size w (((w.alloc (.cells #[.int .i64 k] 3)).alloc (.cells #[.int .u8 b0] 5)).alloc (.cells #[.int .u8 0] 5)):=by
 have a1:=Blk.new w 3 [.int .i64 k]
 have a2:=Blk.new (w.alloc (.cells #[.int .i64 k] 3)) 5 [.int .u8 b0]
 have a3:=Blk.new ((w.alloc (.cells #[.int .i64 k] 3)).alloc (.cells #[.int .u8 b0] 5)) 5 [.int .u8 0]
 simp only [World.size_alloc] at a2 a3
 exact ⟨(a1.grown (World.grownBy_alloc _ _ none) (by simp)).grown (World.grownBy_alloc _ _ none) (by simp),a2.grown (World.grownBy_alloc _ _ none) (by simp),a3,
  (((Below.refl _ _).alloc (Nat.le_refl _) _).alloc (by simp) _).alloc (by simp;omega) _⟩
theorem pput_mark (G B V TO a1 a2:Nat) (P T A M W Q p:Int) (D:Option Addr) (n c:Nat) (k b0 b1:Int) (l:List Ac) (w:World) (hc:CollB w G B l) (hB:B≤w.heap.size) (xv:Blk w V 72 (volL P T A M W Q p D n c)) (xt:Blk w TO 74 [.func (.func 25) #[] #[.pointer (some ⟨a1,0,none⟩),.pointer (some ⟨a2,0,none⟩)]])
  (hl:l.length≤100) (hok:b1≠b0→pgeE P T A M W Q p k=0∧subP b1 (fulP T k.toNat)∧isByte b1)
  (hT:∀ wx,Below w.heap.size w wx→Calls Try.prog 25 #[.int .i64 k,.int .u8 b0,.pointer (some ⟨a1,0,none⟩),.pointer (some ⟨a2,0,none⟩)] wx (fun e w'=>e=.returned (.int .u8 b1)∧Below wx.heap.size wx w')) :
  Calls Try.prog 51 #[.int .i64 k,.int .u8 b0,.pointer (some ⟨G,0,none⟩),.pointer (some ⟨V,0,none⟩),.pointer (some ⟨TO,0,none⟩)] w (fun e w'=>e=.returned (.int .u8 b1)∧CollOut w G B (if b1=b0 then l else l ++ [(1,atP T A p k,pgSec p k b1)]) w'):=by
 obtain ⟨y0,y1,y2,hbel⟩:=box_put w k b0
 obtain ⟨w1,hw1⟩:∃ x:World,x=((w.alloc (.cells #[.int .i64 k] 3)).alloc (.cells #[.int .u8 b0] 5)).alloc (.cells #[.int .u8 0] 5):=⟨_,rfl⟩
 rw [← hw1] at y0 y1 y2 hbel
 have t0:=(xt.below hbel xt.lt).cell 0
 have n0:=y0.cell 0
 have h0:=y1.cell 0
 simp only [gcZ] at t0 n0 h0
 have Y0:=Lh y0
 have Y1:=Lh y1
 have Y2:=Lh y2
 have BB:=Lh hbel
 have HC:=Lh hc
 have XV:=Lh xv
 have HB:=Lh hB
 have PD:=Lh (fun wx h1 h2 h3 h4 h5 h6=>pdefer_any G B V (w.heap.size + 2) (w.heap.size + 1) w.heap.size P T A M W Q p D n c k b0 b1 l wx h1 h2 h3 h4 h5 h6 hl hok)
 obtain ⟨l',hl'⟩:∃ y,y=(if b1=b0 then l else l ++ [(1,atP T A p k,pgSec p k b1)]):=⟨_,rfl⟩
 rw [← hl'] at PD ⊢
 have HT:=Lh (hT w1 hbel)
 clear y0 y1 y2 hbel hc xv xt hB hok hl hT hl'
 go_enter_defers Try.func51,Try.ntmps51
 go_upto_region 1 with fail
 rw [← hw1]
 clear hw1
 go_wp2_with fail
 refine HT.out.mono ?_
 rintro e w2 ⟨rfl,hb⟩
 have y0:=Y0.out.below hb Y0.out.lt
 have y1:=Y1.out.below hb Y1.out.lt
 have y2:=Y2.out.below hb Y2.out.lt
 have g0:=y2.cell 0
 have f0:=y2.free 0
 simp only [gcZ] at g0
 have Y0:=Lh (y0.away (show w.heap.size≠w.heap.size + 2 by omega) 0 (.int .u8 b1))
 have Y1:=Lh (y1.away (show w.heap.size + 1≠w.heap.size + 2 by omega) 0 (.int .u8 b1))
 have Y2:=Lh (y2.set 0 (.int .u8 b1))
 have B3:=Lh ((BB.out.trans (hb.mono BB.out.size)).setCell (p:=⟨w.heap.size + 2,0,none⟩) (by show w.heap.size≤w.heap.size + 2;omega) (.int .u8 b1))
 clear hb y0 y1 y2 HT t0 n0 h0
 go_wp2
 refine leaves_cons (f:=52) (args:=#[.pointer (some ⟨w.heap.size + 2,0,none⟩),.pointer (some ⟨w.heap.size + 1,0,none⟩),.pointer (some ⟨G,0,none⟩),.pointer (some ⟨V,0,none⟩),.pointer (some ⟨w.heap.size,0,none⟩)]) (by simp) (by simp [go_sem]) ?_
 have C3:=Lh (HC.out.below B3.out)
 have V3:=Lh (XV.out.below B3.out XV.out.lt)
 refine (PD.out _ C3.out (Nat.le_trans HB.out B3.out.size) V3.out Y0.out Y2.out Y1.out).mono ?_
 rintro e u' w4 ⟨rfl,rfl,hco⟩
 have z:=(hco.2.2.blk Y2.out (by decide) (by decide)).cell 0
 simp only [scZ,gcZ] at z
 have FIN:=Lh ((CollOut.of HC.out B3.out).trans hco)
 clear hco g0 f0
 simp [Leaves,settle,results,Try.f51,go_sem,z]
 exact FIN.out
theorem pput_clean (G B V TO a1:Nat) (P T A M W Q p:Int) (D:Option Addr) (n c:Nat) (k b0 b1:Int) (l:List Ac) (w:World) (hc:CollB w G B l) (hB:B≤w.heap.size) (xv:Blk w V 72 (volL P T A M W Q p D n c)) (xt:Blk w TO 74 [.func (.func 26) #[] #[.pointer (some ⟨a1,0,none⟩)]])
  (hl:l.length≤100) (hok:b1≠b0→pgeE P T A M W Q p k=0∧subP b1 (fulP T k.toNat)∧isByte b1)
  (hT:∀ wx,Below w.heap.size w wx→Calls Try.prog 26 #[.int .i64 k,.int .u8 b0,.pointer (some ⟨a1,0,none⟩)] wx (fun e w'=>e=.returned (.int .u8 b1)∧Below wx.heap.size wx w')) :
  Calls Try.prog 51 #[.int .i64 k,.int .u8 b0,.pointer (some ⟨G,0,none⟩),.pointer (some ⟨V,0,none⟩),.pointer (some ⟨TO,0,none⟩)] w (fun e w'=>e=.returned (.int .u8 b1)∧CollOut w G B (if b1=b0 then l else l ++ [(1,atP T A p k,pgSec p k b1)]) w'):=by
 obtain ⟨y0,y1,y2,hbel⟩:=box_put w k b0
 obtain ⟨w1,hw1⟩:∃ x:World,x=((w.alloc (.cells #[.int .i64 k] 3)).alloc (.cells #[.int .u8 b0] 5)).alloc (.cells #[.int .u8 0] 5):=⟨_,rfl⟩
 rw [← hw1] at y0 y1 y2 hbel
 have t0:=(xt.below hbel xt.lt).cell 0
 have n0:=y0.cell 0
 have h0:=y1.cell 0
 simp only [gcZ] at t0 n0 h0
 have Y0:=Lh y0
 have Y1:=Lh y1
 have Y2:=Lh y2
 have BB:=Lh hbel
 have HC:=Lh hc
 have XV:=Lh xv
 have HB:=Lh hB
 have PD:=Lh (fun wx h1 h2 h3 h4 h5 h6=>pdefer_any G B V (w.heap.size + 2) (w.heap.size + 1) w.heap.size P T A M W Q p D n c k b0 b1 l wx h1 h2 h3 h4 h5 h6 hl hok)
 obtain ⟨l',hl'⟩:∃ y,y=(if b1=b0 then l else l ++ [(1,atP T A p k,pgSec p k b1)]):=⟨_,rfl⟩
 rw [← hl'] at PD ⊢
 have HT:=Lh (hT w1 hbel)
 clear y0 y1 y2 hbel hc xv xt hB hok hl hT hl'
 go_enter_defers Try.func51,Try.ntmps51
 go_upto_region 1 with fail
 rw [← hw1]
 clear hw1
 go_wp2_with fail
 refine HT.out.mono ?_
 rintro e w2 ⟨rfl,hb⟩
 have y0:=Y0.out.below hb Y0.out.lt
 have y1:=Y1.out.below hb Y1.out.lt
 have y2:=Y2.out.below hb Y2.out.lt
 have g0:=y2.cell 0
 have f0:=y2.free 0
 simp only [gcZ] at g0
 have Y0:=Lh (y0.away (show w.heap.size≠w.heap.size + 2 by omega) 0 (.int .u8 b1))
 have Y1:=Lh (y1.away (show w.heap.size + 1≠w.heap.size + 2 by omega) 0 (.int .u8 b1))
 have Y2:=Lh (y2.set 0 (.int .u8 b1))
 have B3:=Lh ((BB.out.trans (hb.mono BB.out.size)).setCell (p:=⟨w.heap.size + 2,0,none⟩) (by show w.heap.size≤w.heap.size + 2;omega) (.int .u8 b1))
 clear hb y0 y1 y2 HT t0 n0 h0
 go_wp2
 refine leaves_cons (f:=52) (args:=#[.pointer (some ⟨w.heap.size + 2,0,none⟩),.pointer (some ⟨w.heap.size + 1,0,none⟩),.pointer (some ⟨G,0,none⟩),.pointer (some ⟨V,0,none⟩),.pointer (some ⟨w.heap.size,0,none⟩)]) (by simp) (by simp [go_sem]) ?_
 have C3:=Lh (HC.out.below B3.out)
 have V3:=Lh (XV.out.below B3.out XV.out.lt)
 refine (PD.out _ C3.out (Nat.le_trans HB.out B3.out.size) V3.out Y0.out Y2.out Y1.out).mono ?_
 rintro e u' w4 ⟨rfl,rfl,hco⟩
 have z:=(hco.2.2.blk Y2.out (by decide) (by decide)).cell 0
 simp only [scZ,gcZ] at z
 have FIN:=Lh ((CollOut.of HC.out B3.out).trans hco)
 clear hco g0 f0
 simp [Leaves,settle,results,Try.f51,go_sem,z]
 exact FIN.out
theorem pput_fill (G B V TO a1:Nat) (P T A M W Q p:Int) (D:Option Addr) (n c:Nat) (k b0 b1:Int) (l:List Ac) (w:World) (hc:CollB w G B l) (hB:B≤w.heap.size) (xv:Blk w V 72 (volL P T A M W Q p D n c)) (xt:Blk w TO 74 [.func (.func 28) #[] #[.pointer (some ⟨a1,0,none⟩)]])
  (hl:l.length≤100) (hok:b1≠b0→pgeE P T A M W Q p k=0∧subP b1 (fulP T k.toNat)∧isByte b1)
  (hT:∀ wx,Below w.heap.size w wx→Calls Try.prog 28 #[.int .i64 k,.int .u8 b0,.pointer (some ⟨a1,0,none⟩)] wx (fun e w'=>e=.returned (.int .u8 b1)∧Below wx.heap.size wx w')) :
  Calls Try.prog 51 #[.int .i64 k,.int .u8 b0,.pointer (some ⟨G,0,none⟩),.pointer (some ⟨V,0,none⟩),.pointer (some ⟨TO,0,none⟩)] w (fun e w'=>e=.returned (.int .u8 b1)∧CollOut w G B (if b1=b0 then l else l ++ [(1,atP T A p k,pgSec p k b1)]) w'):=by
 obtain ⟨y0,y1,y2,hbel⟩:=box_put w k b0
 obtain ⟨w1,hw1⟩:∃ x:World,x=((w.alloc (.cells #[.int .i64 k] 3)).alloc (.cells #[.int .u8 b0] 5)).alloc (.cells #[.int .u8 0] 5):=⟨_,rfl⟩
 rw [← hw1] at y0 y1 y2 hbel
 have t0:=(xt.below hbel xt.lt).cell 0
 have n0:=y0.cell 0
 have h0:=y1.cell 0
 simp only [gcZ] at t0 n0 h0
 have Y0:=Lh y0
 have Y1:=Lh y1
 have Y2:=Lh y2
 have BB:=Lh hbel
 have HC:=Lh hc
 have XV:=Lh xv
 have HB:=Lh hB
 have PD:=Lh (fun wx h1 h2 h3 h4 h5 h6=>pdefer_any G B V (w.heap.size + 2) (w.heap.size + 1) w.heap.size P T A M W Q p D n c k b0 b1 l wx h1 h2 h3 h4 h5 h6 hl hok)
 obtain ⟨l',hl'⟩:∃ y,y=(if b1=b0 then l else l ++ [(1,atP T A p k,pgSec p k b1)]):=⟨_,rfl⟩
 rw [← hl'] at PD ⊢
 have HT:=Lh (hT w1 hbel)
 clear y0 y1 y2 hbel hc xv xt hB hok hl hT hl'
 go_enter_defers Try.func51,Try.ntmps51
 go_upto_region 1 with fail
 rw [← hw1]
 clear hw1
 go_wp2_with fail
 refine HT.out.mono ?_
 rintro e w2 ⟨rfl,hb⟩
 have y0:=Y0.out.below hb Y0.out.lt
 have y1:=Y1.out.below hb Y1.out.lt
 have y2:=Y2.out.below hb Y2.out.lt
 have g0:=y2.cell 0
 have f0:=y2.free 0
 simp only [gcZ] at g0
 have Y0:=Lh (y0.away (show w.heap.size≠w.heap.size + 2 by omega) 0 (.int .u8 b1))
 have Y1:=Lh (y1.away (show w.heap.size + 1≠w.heap.size + 2 by omega) 0 (.int .u8 b1))
 have Y2:=Lh (y2.set 0 (.int .u8 b1))
 have B3:=Lh ((BB.out.trans (hb.mono BB.out.size)).setCell (p:=⟨w.heap.size + 2,0,none⟩) (by show w.heap.size≤w.heap.size + 2;omega) (.int .u8 b1))
 clear hb y0 y1 y2 HT t0 n0 h0
 go_wp2
 refine leaves_cons (f:=52) (args:=#[.pointer (some ⟨w.heap.size + 2,0,none⟩),.pointer (some ⟨w.heap.size + 1,0,none⟩),.pointer (some ⟨G,0,none⟩),.pointer (some ⟨V,0,none⟩),.pointer (some ⟨w.heap.size,0,none⟩)]) (by simp) (by simp [go_sem]) ?_
 have C3:=Lh (HC.out.below B3.out)
 have V3:=Lh (XV.out.below B3.out XV.out.lt)
 refine (PD.out _ C3.out (Nat.le_trans HB.out B3.out.size) V3.out Y0.out Y2.out Y1.out).mono ?_
 rintro e u' w4 ⟨rfl,rfl,hco⟩
 have z:=(hco.2.2.blk Y2.out (by decide) (by decide)).cell 0
 simp only [scZ,gcZ] at z
 have FIN:=Lh ((CollOut.of HC.out B3.out).trans hco)
 clear hco g0 f0
 simp [Leaves,settle,results,Try.f51,go_sem,z]
 exact FIN.out
end Go.Proofs.Ytdbeiikaeccbhaa
