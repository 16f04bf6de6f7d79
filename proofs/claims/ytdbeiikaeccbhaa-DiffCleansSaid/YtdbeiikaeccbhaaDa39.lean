/- Texts of the layers below, joined. -/
import Derived.Test.YtdbeiikaeccbhaaDa38
set_option maxRecDepth 100000
set_option maxHeartbeats 12800000
set_option linter.unusedVariables false
namespace Go.Proofs.Ytdbeiikaeccbhaa
open Go.RowKit
set_option maxRecDepth 100000
theorem box_mk (w:World) (P T A M W Q:Int) (D1:Option Addr) (n1 c1:Nat) :
  Blk ((w.alloc (.cells #[.int .i64 P,.int .i64 T,.int .i64 A,.int .i64 M,.int .i64 W,.int .i64 Q] 28)).alloc (.cells #[.slice D1 n1 c1] 22)) w.heap.size 28 [.int .i64 P,.int .i64 T,.int .i64 A,.int .i64 M,.int .i64 W,.int .i64 Q]∧Blk ((w.alloc (.cells #[.int .i64 P,.int .i64 T,.int .i64 A,.int .i64 M,.int .i64 W,.int .i64 Q] 28)).alloc (.cells #[.slice D1 n1 c1] 22)) (w.heap.size + 1) 22 [.slice D1 n1 c1]∧Below w.heap.size w ((w.alloc (.cells #[.int .i64 P,.int .i64 T,.int .i64 A,.int .i64 M,.int .i64 W,.int .i64 Q] 28)).alloc (.cells #[.slice D1 n1 c1] 22)):=by
 obtain ⟨x,hb⟩:=box_cfg w P T A M W Q
 have y:=Blk.new (w.alloc (.cells #[.int .i64 P,.int .i64 T,.int .i64 A,.int .i64 M,.int .i64 W,.int .i64 Q] 28)) 22 [.slice D1 n1 c1]
 rw [World.size_alloc] at y
 exact ⟨x.grown (World.grownBy_alloc _ _ none) (by simp),y,hb.alloc hb.size _⟩
theorem of_one {P T A M W Q:Int} (hc:mayC P T A M W Q) (t:Int):ofE T [t]=(if 0≤t∧t < T then 0 else 2)∧((0≤t∧t < T)→ofB T [t]=oneT T.toNat t.toNat):=by
 have h1:1≤T∧T≤16:=by unfold mayC at hc;omega
 have e:ofE T [t]=(if 0≤t∧t < T then 0 else 2):=by
  unfold ofE
  by_cases ht:0≤t∧t < T
  ·rw [if_pos ht,if_pos ⟨h1,fun z hz=>by rw [List.mem_singleton.1 hz];exact ht⟩]
  ·rw [if_neg ht,if_neg (fun h=>ht (h.2 t (List.mem_singleton.2 rfl)))]
 refine ⟨e,fun ht=>?_⟩
 unfold ofB oneT
 rw [e,if_pos ht,if_pos rfl]
 have:((t.toNat:Nat):Int)=t:=by omega
 rw [this]
theorem pmark14_e (P T A M W Q p:Int) (D:Option Addr) (n c:Nat) (mk:Txt) (D1:Option Addr) (n1 c1:Nat) (wk:Txt) (t:Int) (w:World) (h0:Arg w .u8 D n c mk) (h1:Arg w .u8 D1 n1 c1 wk) (y0:∀ z ∈ mk,isByte z) (y1:∀ z ∈ wk,isByte z) (hE:dfE P T A M W Q p mk wk≠0) :
  Calls Try.prog 7 #[cfgV P T A M W Q,.int .i64 p,.slice D n c,.slice D1 n1 c1,.int .i64 t] w (MkOut w [] [] (dfE P T A M W Q p mk wk)):=by
 obtain ⟨x0,x1,hbel⟩:=box_mk w P T A M W Q D1 n1 c1
 obtain ⟨w1,hw1⟩:∃ x:World,x=((w.alloc (.cells #[.int .i64 P,.int .i64 T,.int .i64 A,.int .i64 M,.int .i64 W,.int .i64 Q] 28)).alloc (.cells #[.slice D1 n1 c1] 22)):=⟨_,rfl⟩
 rw [← hw1] at x0 x1 hbel
 have x2:=Blk.new w1 22 [.slice D n c,.slice D1 n1 c1]
 have hk:Below w1.heap.size w1 (w1.alloc (.cells #[.slice D n c,.slice D1 n1 c1] 22)):=(Below.refl _ _).alloc (Nat.le_refl _) _
 obtain ⟨w2,hw2⟩:∃ x:World,x=w1.alloc (.cells #[.slice D n c,.slice D1 n1 c1] 22):=⟨_,rfl⟩
 change Blk (w1.alloc (.cells #[.slice D n c,.slice D1 n1 c1] 22)) _ _ _ at x2
 rw [← hw2] at x2 hk
 have B2:=Lh (hbel.trans (hk.mono hbel.size))
 have R0:=Lh (h0.below B2.out)
 have R1:=Lh (h1.below B2.out)
 have X1:=Lh (x1.below hk x1.lt)
 have z1:w1.cell? ⟨w.heap.size + 1,0,none⟩=some (.slice D1 n1 c1):=x1.cell 0
 have X0:=Lh (x0.below hk x0.lt)
 have ck:=pcheck14_any P T A M W Q p w1.heap.size [((D,n,c),mk),((D1,n1,c1),wk)] w2 x2 (by
  intro r hr
  simp only [List.mem_cons,List.not_mem_nil,or_false] at hr
  rcases hr with rfl | rfl
  ·exact ⟨R0.out,y0⟩
  ·exact ⟨R1.out,y1⟩) (by simp)
 rw [show (List.map (·.2) ([((D,n,c),mk),((D1,n1,c1),wk)]:List St))=[mk,wk] from rfl,df_two] at ck
 obtain ⟨k0,k1,k2,k3,k4,k5⟩:=x0.cfg
 obtain ⟨E,hE0⟩:∃ E,E=dfE P T A M W Q p mk wk:=⟨_,rfl⟩
 rw [← hE0] at ck hE ⊢
 have CK:=Lh ck
 have hq:(E != 0)=true:=bne_iff_ne.2 hE
 clear ck hE hE0 h0 y0 x0 hbel x2 hk h1 y1 x1
 go_enter Try.func7,Try.ntmps7
 go_upto_region 1 with fail
 rw [← hw1]
 clear hw1
 go_wp2_with fail
 rw [← hw2]
 clear hw2
 refine CK.out.mono ?_
 rintro e w3 ⟨rfl,hb⟩
 have B3:=Lh (B2.out.trans (hb.mono B2.out.size))
 have X0:=Lh (X0.out.below hb X0.out.lt)
 have R0:=Lh (R0.out.below hb)
 have X1:=Lh (X1.out.below hb X1.out.lt)
 have R1:=Lh (R1.out.below hb)
 clear z1
 clear hb CK k0 k1 k2 k3 k4 k5
 go_wp2
 go_ret3
 exact ⟨none,0,none,0,rfl,World.ownsRow_nil _ _ _ _,OwnActs.nil _ _,B3.out⟩
theorem pclean14_e (P T A M W Q p:Int) (D:Option Addr) (n c:Nat) (mk:Txt) (D1:Option Addr) (n1 c1:Nat) (wk:Txt) (w:World) (h0:Arg w .u8 D n c mk) (h1:Arg w .u8 D1 n1 c1 wk) (y0:∀ z ∈ mk,isByte z) (y1:∀ z ∈ wk,isByte z) (hE:dfE P T A M W Q p mk wk≠0) :
  Calls Try.prog 9 #[cfgV P T A M W Q,.int .i64 p,.slice D n c,.slice D1 n1 c1] w (MkOut w [] [] (dfE P T A M W Q p mk wk)):=by
 obtain ⟨x0,x1,hbel⟩:=box_mk w P T A M W Q D1 n1 c1
 obtain ⟨w1,hw1⟩:∃ x:World,x=((w.alloc (.cells #[.int .i64 P,.int .i64 T,.int .i64 A,.int .i64 M,.int .i64 W,.int .i64 Q] 28)).alloc (.cells #[.slice D1 n1 c1] 22)):=⟨_,rfl⟩
 rw [← hw1] at x0 x1 hbel
 have x2:=Blk.new w1 22 [.slice D n c,.slice D1 n1 c1]
 have hk:Below w1.heap.size w1 (w1.alloc (.cells #[.slice D n c,.slice D1 n1 c1] 22)):=(Below.refl _ _).alloc (Nat.le_refl _) _
 obtain ⟨w2,hw2⟩:∃ x:World,x=w1.alloc (.cells #[.slice D n c,.slice D1 n1 c1] 22):=⟨_,rfl⟩
 change Blk (w1.alloc (.cells #[.slice D n c,.slice D1 n1 c1] 22)) _ _ _ at x2
 rw [← hw2] at x2 hk
 have B2:=Lh (hbel.trans (hk.mono hbel.size))
 have R0:=Lh (h0.below B2.out)
 have R1:=Lh (h1.below B2.out)
 have X1:=Lh (x1.below hk x1.lt)
 have z1:w1.cell? ⟨w.heap.size + 1,0,none⟩=some (.slice D1 n1 c1):=x1.cell 0
 have X0:=Lh (x0.below hk x0.lt)
 have ck:=pcheck14_any P T A M W Q p w1.heap.size [((D,n,c),mk),((D1,n1,c1),wk)] w2 x2 (by
  intro r hr
  simp only [List.mem_cons,List.not_mem_nil,or_false] at hr
  rcases hr with rfl | rfl
  ·exact ⟨R0.out,y0⟩
  ·exact ⟨R1.out,y1⟩) (by simp)
 rw [show (List.map (·.2) ([((D,n,c),mk),((D1,n1,c1),wk)]:List St))=[mk,wk] from rfl,df_two] at ck
 obtain ⟨k0,k1,k2,k3,k4,k5⟩:=x0.cfg
 obtain ⟨E,hE0⟩:∃ E,E=dfE P T A M W Q p mk wk:=⟨_,rfl⟩
 rw [← hE0] at ck hE ⊢
 have CK:=Lh ck
 have hq:(E != 0)=true:=bne_iff_ne.2 hE
 clear ck hE hE0 h0 y0 x0 hbel x2 hk h1 y1 x1
 go_enter Try.func9,Try.ntmps9
 go_upto_region 1 with fail
 rw [← hw1]
 clear hw1
 go_wp2_with fail
 rw [← hw2]
 clear hw2
 refine CK.out.mono ?_
 rintro e w3 ⟨rfl,hb⟩
 have B3:=Lh (B2.out.trans (hb.mono B2.out.size))
 have X0:=Lh (X0.out.below hb X0.out.lt)
 have R0:=Lh (R0.out.below hb)
 have X1:=Lh (X1.out.below hb X1.out.lt)
 have R1:=Lh (R1.out.below hb)
 clear z1
 clear hb CK k0 k1 k2 k3 k4 k5
 go_wp2
 go_ret3
 exact ⟨none,0,none,0,rfl,World.ownsRow_nil _ _ _ _,OwnActs.nil _ _,B3.out⟩
theorem pfill14_e (P T A M W Q p:Int) (D:Option Addr) (n c:Nat) (mk:Txt) (w:World) (h0:Arg w .u8 D n c mk) (y0:∀ z ∈ mk,isByte z) (hE:dfE P T A M W Q p mk mk≠0) :
  Calls Try.prog 10 #[cfgV P T A M W Q,.int .i64 p,.slice D n c] w (MkOut w [] [] (dfE P T A M W Q p mk mk)):=by
 obtain ⟨x0,hbel⟩:=box_cfg w P T A M W Q
 obtain ⟨w1,hw1⟩:∃ x:World,x=w.alloc (.cells #[.int .i64 P,.int .i64 T,.int .i64 A,.int .i64 M,.int .i64 W,.int .i64 Q] 28):=⟨_,rfl⟩
 rw [← hw1] at x0 hbel
 have x2:=Blk.new w1 22 [.slice D n c]
 have hk:Below w1.heap.size w1 (w1.alloc (.cells #[.slice D n c] 22)):=(Below.refl _ _).alloc (Nat.le_refl _) _
 obtain ⟨w2,hw2⟩:∃ x:World,x=w1.alloc (.cells #[.slice D n c] 22):=⟨_,rfl⟩
 change Blk (w1.alloc (.cells #[.slice D n c] 22)) _ _ _ at x2
 rw [← hw2] at x2 hk
 have B2:=Lh (hbel.trans (hk.mono hbel.size))
 have R0:=Lh (h0.below B2.out)
 have X0:=Lh (x0.below hk x0.lt)
 have ck:=pcheck14_any P T A M W Q p w1.heap.size [((D,n,c),mk)] w2 x2 (by
  intro r hr
  simp only [List.mem_cons,List.not_mem_nil,or_false] at hr
  subst hr
  exact ⟨R0.out,y0⟩) (by simp)
 rw [show (List.map (·.2) ([((D,n,c),mk)]:List St))=[mk] from rfl,df_one] at ck
 obtain ⟨k0,k1,k2,k3,k4,k5⟩:=x0.cfg
 obtain ⟨E,hE0⟩:∃ E,E=dfE P T A M W Q p mk mk:=⟨_,rfl⟩
 rw [← hE0] at ck hE ⊢
 have CK:=Lh ck
 have hq:(E != 0)=true:=bne_iff_ne.2 hE
 clear ck hE hE0 h0 y0 x0 hbel x2 hk
 go_enter Try.func10,Try.ntmps10
 go_upto_region 1 with fail
 rw [← hw1]
 clear hw1
 go_wp2_with fail
 rw [← hw2]
 clear hw2
 refine CK.out.mono ?_
 rintro e w3 ⟨rfl,hb⟩
 have B3:=Lh (B2.out.trans (hb.mono B2.out.size))
 have X0:=Lh (X0.out.below hb X0.out.lt)
 have R0:=Lh (R0.out.below hb)
 clear hb CK k0 k1 k2 k3 k4 k5
 go_wp2
 go_ret3
 exact ⟨none,0,none,0,rfl,World.ownsRow_nil _ _ _ _,OwnActs.nil _ _,B3.out⟩
theorem pmark14_t (P T A M W Q p:Int) (D:Option Addr) (n c:Nat) (mk:Txt) (D1:Option Addr) (n1 c1:Nat) (wk:Txt) (t:Int) (w:World) (h0:Arg w .u8 D n c mk) (h1:Arg w .u8 D1 n1 c1 wk) (y0:∀ z ∈ mk,isByte z) (y1:∀ z ∈ wk,isByte z) (hE:dfE P T A M W Q p mk wk=0) (ht:¬ (0≤t∧t < T)) :
  Calls Try.prog 7 #[cfgV P T A M W Q,.int .i64 p,.slice D n c,.slice D1 n1 c1,.int .i64 t] w (MkOut w [] [] 2):=by
 obtain ⟨x0,x1,hbel⟩:=box_mk w P T A M W Q D1 n1 c1
 obtain ⟨w1,hw1⟩:∃ x:World,x=((w.alloc (.cells #[.int .i64 P,.int .i64 T,.int .i64 A,.int .i64 M,.int .i64 W,.int .i64 Q] 28)).alloc (.cells #[.slice D1 n1 c1] 22)):=⟨_,rfl⟩
 rw [← hw1] at x0 x1 hbel
 have x2:=Blk.new w1 22 [.slice D n c,.slice D1 n1 c1]
 have hk:Below w1.heap.size w1 (w1.alloc (.cells #[.slice D n c,.slice D1 n1 c1] 22)):=(Below.refl _ _).alloc (Nat.le_refl _) _
 obtain ⟨w2,hw2⟩:∃ x:World,x=w1.alloc (.cells #[.slice D n c,.slice D1 n1 c1] 22):=⟨_,rfl⟩
 change Blk (w1.alloc (.cells #[.slice D n c,.slice D1 n1 c1] 22)) _ _ _ at x2
 rw [← hw2] at x2 hk
 have B2:=Lh (hbel.trans (hk.mono hbel.size))
 have R0:=Lh (h0.below B2.out)
 have R1:=Lh (h1.below B2.out)
 have X1:=Lh (x1.below hk x1.lt)
 have z1:w1.cell? ⟨w.heap.size + 1,0,none⟩=some (.slice D1 n1 c1):=x1.cell 0
 have X0:=Lh (x0.below hk x0.lt)
 have ck:=pcheck14_any P T A M W Q p w1.heap.size [((D,n,c),mk),((D1,n1,c1),wk)] w2 x2 (by
  intro r hr
  simp only [List.mem_cons,List.not_mem_nil,or_false] at hr
  rcases hr with rfl | rfl
  ·exact ⟨R0.out,y0⟩
  ·exact ⟨R1.out,y1⟩) (by simp)
 rw [show (List.map (·.2) ([((D,n,c),mk),((D1,n1,c1),wk)]:List St))=[mk,wk] from rfl,df_two] at ck
 obtain ⟨k0,k1,k2,k3,k4,k5⟩:=x0.cfg
 rw [hE] at ck
 have CK:=Lh ck
 have OF:=Lh (fun Ax nx cx wx hx=>Of_any T Ax nx cx [t] wx hx)
 have hoe:=(of_one (df_zero hE).1 t).1
 rw [if_neg ht] at hoe
 have hob:ofB T [t]=[]:=by unfold ofB;rw [hoe];rfl
 rw [hoe,hob] at OF
 clear ck hE h0 y0 x0 hbel x2 hk h1 y1 x1 hoe hob ht
 go_enter Try.func7,Try.ntmps7
 go_upto_region 1 with fail
 rw [← hw1]
 clear hw1
 go_wp2_with fail
 rw [← hw2]
 clear hw2
 refine CK.out.mono ?_
 rintro e w3 ⟨rfl,hb⟩
 have B3:=Lh (B2.out.trans (hb.mono B2.out.size))
 have X0:=Lh (X0.out.below hb X0.out.lt)
 have R0:=Lh (R0.out.below hb)
 have X1:=Lh (X1.out.below hb X1.out.lt)
 have R1:=Lh (R1.out.below hb)
 clear z1
 clear hb CK k0 k1 k2 k3 k4 k5
 have y:=Blk.new w3 3 [.int .i64 t]
 have hk:Below w3.heap.size w3 (w3.alloc (.cells #[.int .i64 t] 3)):=(Below.refl _ _).alloc (Nat.le_refl _) _
 obtain ⟨w4,hw4⟩:∃ x:World,x=w3.alloc (.cells #[.int .i64 t] 3):=⟨_,rfl⟩
 change Blk (w3.alloc (.cells #[.int .i64 t] 3)) _ _ _ at y
 rw [← hw4] at y hk
 have OF:=Lh (OF.out (some ⟨w3.heap.size,0,none⟩) 1 1 w4 (Arg.own (k:=.i64) (zs:=[t]) (y.owns (base:=w3.heap.size) (n:=1) (Nat.le_refl _) rfl (by decide))))
 have k1:w3.cell? ⟨w.heap.size,1,none⟩=some (.int .i64 T):=X0.out.cell 1
 have B3:=Lh (B3.out.trans (hk.mono B3.out.size))
 have X0:=Lh (X0.out.below hk X0.out.lt)
 have R0:=Lh (R0.out.below hk)
 have X1:=Lh (X1.out.below hk X1.out.lt)
 have R1:=Lh (R1.out.below hk)
 clear y hk
 go_wp2_with fail
 rw [← hw4]
 clear hw4
 refine OF.out.mono ?_
 rintro e w5 ⟨A5,r5,rfl,hown,hb⟩
 have B5:=Lh (B3.out.trans (hb.mono B3.out.size))
 clear hown hb k1 OF
 have hk:Below w5.heap.size w5 (w5.alloc (.cells #[.slice A5 0 r5] 22)):=(Below.refl _ _).alloc (Nat.le_refl _) _
 have B3:=Lh (B5.out.trans (hk.mono B5.out.size))
 obtain ⟨w6,hw6⟩:∃ x:World,x=w5.alloc (.cells #[.slice A5 0 r5] 22):=⟨_,rfl⟩
 rw [← hw6] at B3
 clear hk
 go_upto_region 5 with fail
 rw [← hw6]
 clear hw6
 go_wp2
 go_ret3
 exact ⟨none,0,none,0,rfl,World.ownsRow_nil _ _ _ _,OwnActs.nil _ _,B3.out⟩
theorem pmark14_yes (P T A M W Q p:Int) (D:Option Addr) (n c:Nat) (mk:Txt) (D1:Option Addr) (n1 c1:Nat) (wk:Txt) (t:Int) (w:World) (h0:Arg w .u8 D n c mk) (h1:Arg w .u8 D1 n1 c1 wk) (y0:∀ z ∈ mk,isByte z) (y1:∀ z ∈ wk,isByte z) (hE:dfE P T A M W Q p mk wk=0) (ht:0≤t∧t < T) :
  Calls Try.prog 7 #[cfgV P T A M W Q,.int .i64 p,.slice D n c,.slice D1 n1 c1,.int .i64 t] w (MkOut w (outW mk (dmS T mk wk t) (dmW mk t) mk.length) (actW (whP T A p (dmS T mk wk t) (dmW mk t) mk.length)) 0):=by
 obtain ⟨hc,hp,hm0,hm1⟩:=df_zero hE
 obtain ⟨s0,l0⟩:=may_set hc hm0 y0
 obtain ⟨s1,l1⟩:=may_set hc hm1 y1
 obtain ⟨m,hm⟩:∃ m,m=(pagC T).toNat:=⟨_,rfl⟩
 rw [← hm] at l0 l1
 have hn:n=m:=by rw [← h0.len];exact l0
 have hn1:n1=m:=by rw [← h1.len];exact l1
 subst hn1
 subst hn
 rw [l0]
 obtain ⟨x0,x1,hbel⟩:=box_mk w P T A M W Q D1 n c1
 obtain ⟨w1,hw1⟩:∃ x:World,x=((w.alloc (.cells #[.int .i64 P,.int .i64 T,.int .i64 A,.int .i64 M,.int .i64 W,.int .i64 Q] 28)).alloc (.cells #[.slice D1 n c1] 22)):=⟨_,rfl⟩
 rw [← hw1] at x0 x1 hbel
 have x2:=Blk.new w1 22 [.slice D n c,.slice D1 n c1]
 have hk:Below w1.heap.size w1 (w1.alloc (.cells #[.slice D n c,.slice D1 n c1] 22)):=(Below.refl _ _).alloc (Nat.le_refl _) _
 obtain ⟨w2,hw2⟩:∃ x:World,x=w1.alloc (.cells #[.slice D n c,.slice D1 n c1] 22):=⟨_,rfl⟩
 change Blk (w1.alloc (.cells #[.slice D n c,.slice D1 n c1] 22)) _ _ _ at x2
 rw [← hw2] at x2 hk
 have B2:=Lh (hbel.trans (hk.mono hbel.size))
 have R0:=Lh (h0.below B2.out)
 have R1:=Lh (h1.below B2.out)
 have X1:=Lh (x1.below hk x1.lt)
 have z1:w1.cell? ⟨w.heap.size + 1,0,none⟩=some (.slice D1 n c1):=x1.cell 0
 have X0:=Lh (x0.below hk x0.lt)
 have ck:=pcheck14_any P T A M W Q p w1.heap.size [((D,n,c),mk),((D1,n,c1),wk)] w2 x2 (by
  intro r hr
  simp only [List.mem_cons,List.not_mem_nil,or_false] at hr
  rcases hr with rfl | rfl
  ·exact ⟨R0.out,y0⟩
  ·exact ⟨R1.out,y1⟩) (by simp)
 rw [show (List.map (·.2) ([((D,n,c),mk),((D1,n,c1),wk)]:List St))=[mk,wk] from rfl,df_two] at ck
 obtain ⟨k0,k1,k2,k3,k4,k5⟩:=x0.cfg
 rw [hE] at ck
 have CK:=Lh ck
 have OF:=Lh (fun Ax nx cx wx hx=>Of_any T Ax nx cx [t] wx hx)
 have hoe:=(of_one hc t).1
 rw [if_pos ht] at hoe
 rw [hoe,(of_one hc t).2 ht] at OF
 have HL:=Lh (show (oneT T.toNat t.toNat).length=n by rw [(show IsSet T.toNat (oneT T.toNat t.toNat) from made_isSet _ _).len,← pag_pgs hc];exact hm.symm)
 have WR:=Lh (fun g1 D5 c5 g2 wx hx a1 a2=>pwr_mark hc hp n hm D c mk g1 D5 c5 g2 D1 c1 wk t wx hx a1 a2 s0 s1 ht)
 obtain ⟨o,ho⟩:∃ o,o=outW mk (dmS T mk wk t) (dmW mk t) n:=⟨_,rfl⟩
 obtain ⟨l,hl⟩:∃ l,l=actW (whP T A p (dmS T mk wk t) (dmW mk t) n):=⟨_,rfl⟩
 rw [← ho,← hl] at WR
 rw [← ho,← hl]
 obtain ⟨v,hv⟩:∃ v,v=oneT T.toNat t.toNat:=⟨_,rfl⟩
 rw [← hv] at OF HL WR
 clear ck hE h0 y0 x0 hbel x2 hk h1 y1 x1 hoe ht ho hl hv s0 s1 l0 l1 hm0 hm1 hc hp hm
 go_enter Try.func7,Try.ntmps7
 go_upto_region 1 with fail
 rw [← hw1]
 clear hw1
 go_wp2_with fail
 rw [← hw2]
 clear hw2
 refine CK.out.mono ?_
 rintro e w3 ⟨rfl,hb⟩
 have B3:=Lh (B2.out.trans (hb.mono B2.out.size))
 have X0:=Lh (X0.out.below hb X0.out.lt)
 have R0:=Lh (R0.out.below hb)
 have X1:=Lh (X1.out.below hb X1.out.lt)
 have R1:=Lh (R1.out.below hb)
 clear z1
 clear hb CK k0 k1 k2 k3 k4 k5
 have y:=Blk.new w3 3 [.int .i64 t]
 have hk:Below w3.heap.size w3 (w3.alloc (.cells #[.int .i64 t] 3)):=(Below.refl _ _).alloc (Nat.le_refl _) _
 obtain ⟨w4,hw4⟩:∃ x:World,x=w3.alloc (.cells #[.int .i64 t] 3):=⟨_,rfl⟩
 change Blk (w3.alloc (.cells #[.int .i64 t] 3)) _ _ _ at y
 rw [← hw4] at y hk
 have OF:=Lh (OF.out (some ⟨w3.heap.size,0,none⟩) 1 1 w4 (Arg.own (k:=.i64) (zs:=[t]) (y.owns (base:=w3.heap.size) (n:=1) (Nat.le_refl _) rfl (by decide))))
 have k1:w3.cell? ⟨w.heap.size,1,none⟩=some (.int .i64 T):=X0.out.cell 1
 have B3:=Lh (B3.out.trans (hk.mono B3.out.size))
 have X0:=Lh (X0.out.below hk X0.out.lt)
 have R0:=Lh (R0.out.below hk)
 have X1:=Lh (X1.out.below hk X1.out.lt)
 have R1:=Lh (R1.out.below hk)
 clear y hk
 go_wp2_with fail
 rw [← hw4]
 clear hw4
 refine OF.out.mono ?_
 intro e w5 hout
 obtain ⟨A5,r5,rfl,hown,hb⟩:=hout.len rfl HL.out
 have x5:=Blk.new w5 22 [.slice A5 n r5]
 have hk:Below w5.heap.size w5 (w5.alloc (.cells #[.slice A5 n r5] 22)):=(Below.refl _ _).alloc (Nat.le_refl _) _
 obtain ⟨w6,hw6⟩:∃ x:World,x=w5.alloc (.cells #[.slice A5 n r5] 22):=⟨_,rfl⟩
 change Blk (w5.alloc (.cells #[.slice A5 n r5] 22)) _ _ _ at x5
 rw [← hw6] at x5 hk
 have hb6:=hb.trans (hk.mono hb.size)
 have B6:=Lh (B3.out.trans (hb6.mono B3.out.size))
 have X0:=Lh (X0.out.below hb6 X0.out.lt)
 have WR:=Lh (WR.out w5.heap.size A5 r5 (w.heap.size + 1) w6 (R0.out.below hb6) ⟨x5,(Arg.own hown).below hk⟩ ⟨X1.out.below hb6 X1.out.lt,R1.out.below hb6⟩)
 clear hout hown hb k1 OF x5 hk hb6
 obtain ⟨k0,k1,k2,k3,k4,k5⟩:=X0.out.cfg
 go_upto_region 5 with fail
 rw [← hw6]
 clear hw6
 go_wp2_with fail
 refine WR.out.mono ?_
 rintro e w7 ⟨A7,r7,A7',r7',rfl,hown,hact,hb⟩
 have OW:=Lh (owns_base hown B6.out.size)
 have AC:=Lh (hact.lower B6.out.size)
 have BF:=Lh (B6.out.trans (hb.mono B6.out.size))
 clear hown hact hb WR k0 k1 k2 k3 k4 k5
 go_wp2
 go_ret3
 exact ⟨A7,r7,A7',r7',rfl,OW.out,AC.out,BF.out⟩
theorem pclean14_yes (P T A M W Q p:Int) (D:Option Addr) (n c:Nat) (mk:Txt) (D1:Option Addr) (n1 c1:Nat) (wk:Txt) (w:World) (h0:Arg w .u8 D n c mk) (h1:Arg w .u8 D1 n1 c1 wk) (y0:∀ z ∈ mk,isByte z) (y1:∀ z ∈ wk,isByte z) (hE:dfE P T A M W Q p mk wk=0) :
  Calls Try.prog 9 #[cfgV P T A M W Q,.int .i64 p,.slice D n c,.slice D1 n1 c1] w (MkOut w (outW mk (bothL T.toNat mk wk) (difW (bothL T.toNat mk wk) mk) mk.length) (actW (whP T A p (bothL T.toNat mk wk) (difW (bothL T.toNat mk wk) mk) mk.length)) 0):=by
 obtain ⟨hc,hp,hm0,hm1⟩:=df_zero hE
 obtain ⟨s0,l0⟩:=may_set hc hm0 y0
 obtain ⟨s1,l1⟩:=may_set hc hm1 y1
 obtain ⟨m,hm⟩:∃ m,m=(pagC T).toNat:=⟨_,rfl⟩
 rw [← hm] at l0 l1
 have hn:n=m:=by rw [← h0.len];exact l0
 have hn1:n1=m:=by rw [← h1.len];exact l1
 subst hn1
 subst hn
 rw [l0]
 obtain ⟨x0,x1,hbel⟩:=box_mk w P T A M W Q D1 n c1
 obtain ⟨w1,hw1⟩:∃ x:World,x=((w.alloc (.cells #[.int .i64 P,.int .i64 T,.int .i64 A,.int .i64 M,.int .i64 W,.int .i64 Q] 28)).alloc (.cells #[.slice D1 n c1] 22)):=⟨_,rfl⟩
 rw [← hw1] at x0 x1 hbel
 have x2:=Blk.new w1 22 [.slice D n c,.slice D1 n c1]
 have hk:Below w1.heap.size w1 (w1.alloc (.cells #[.slice D n c,.slice D1 n c1] 22)):=(Below.refl _ _).alloc (Nat.le_refl _) _
 obtain ⟨w2,hw2⟩:∃ x:World,x=w1.alloc (.cells #[.slice D n c,.slice D1 n c1] 22):=⟨_,rfl⟩
 change Blk (w1.alloc (.cells #[.slice D n c,.slice D1 n c1] 22)) _ _ _ at x2
 rw [← hw2] at x2 hk
 have B2:=Lh (hbel.trans (hk.mono hbel.size))
 have R0:=Lh (h0.below B2.out)
 have R1:=Lh (h1.below B2.out)
 have X1:=Lh (x1.below hk x1.lt)
 have z1:w1.cell? ⟨w.heap.size + 1,0,none⟩=some (.slice D1 n c1):=x1.cell 0
 have X0:=Lh (x0.below hk x0.lt)
 have ck:=pcheck14_any P T A M W Q p w1.heap.size [((D,n,c),mk),((D1,n,c1),wk)] w2 x2 (by
  intro r hr
  simp only [List.mem_cons,List.not_mem_nil,or_false] at hr
  rcases hr with rfl | rfl
  ·exact ⟨R0.out,y0⟩
  ·exact ⟨R1.out,y1⟩) (by simp)
 rw [show (List.map (·.2) ([((D,n,c),mk),((D1,n,c1),wk)]:List St))=[mk,wk] from rfl,df_two] at ck
 obtain ⟨k0,k1,k2,k3,k4,k5⟩:=x0.cfg
 rw [hE] at ck
 have CK:=Lh ck
 have WR:=Lh (fun g2 wx hx a2=>pwr_clean hc hp n hm D c mk g2 D1 c1 wk wx hx a2 s0 s1)
 obtain ⟨o,ho⟩:∃ o,o=outW mk (bothL T.toNat mk wk) (difW (bothL T.toNat mk wk) mk) n:=⟨_,rfl⟩
 obtain ⟨l,hl⟩:∃ l,l=actW (whP T A p (bothL T.toNat mk wk) (difW (bothL T.toNat mk wk) mk) n):=⟨_,rfl⟩
 rw [← ho,← hl] at WR
 rw [← ho,← hl]
 clear ck hE h0 y0 x0 hbel x2 hk h1 y1 x1 ho hl s0 s1 l0 l1 hm0 hm1 hc hp hm
 go_enter Try.func9,Try.ntmps9
 go_upto_region 1 with fail
 rw [← hw1]
 clear hw1
 go_wp2_with fail
 rw [← hw2]
 clear hw2
 refine CK.out.mono ?_
 rintro e w3 ⟨rfl,hb⟩
 have B3:=Lh (B2.out.trans (hb.mono B2.out.size))
 have X0:=Lh (X0.out.below hb X0.out.lt)
 have R0:=Lh (R0.out.below hb)
 have X1:=Lh (X1.out.below hb X1.out.lt)
 have R1:=Lh (R1.out.below hb)
 clear z1
 clear hb CK k0 k1 k2 k3 k4 k5
 have B6:=Lh B3.out
 have WR:=Lh (WR.out (w.heap.size + 1) w3 R0.out ⟨X1.out,R1.out⟩)
 obtain ⟨k0,k1,k2,k3,k4,k5⟩:=X0.out.cfg
 go_wp2_with fail
 refine WR.out.mono ?_
 rintro e w7 ⟨A7,r7,A7',r7',rfl,hown,hact,hb⟩
 have OW:=Lh (owns_base hown B6.out.size)
 have AC:=Lh (hact.lower B6.out.size)
 have BF:=Lh (B6.out.trans (hb.mono B6.out.size))
 clear hown hact hb WR k0 k1 k2 k3 k4 k5
 go_wp2
 go_ret3
 exact ⟨A7,r7,A7',r7',rfl,OW.out,AC.out,BF.out⟩
theorem pfill14_yes (P T A M W Q p:Int) (D:Option Addr) (n c:Nat) (mk:Txt) (w:World) (h0:Arg w .u8 D n c mk) (y0:∀ z ∈ mk,isByte z) (hE:dfE P T A M W Q p mk mk=0) :
  Calls Try.prog 10 #[cfgV P T A M W Q,.int .i64 p,.slice D n c] w (MkOut w (outW mk (allB T) (difW (allB T) mk) mk.length) (actW (whP T A p (allB T) (difW (allB T) mk) mk.length)) 0):=by
 obtain ⟨hc,hp,hm0,_⟩:=df_zero hE
 obtain ⟨s0,l0⟩:=may_set hc hm0 y0
 obtain ⟨m,hm⟩:∃ m,m=(pagC T).toNat:=⟨_,rfl⟩
 rw [← hm] at l0
 have hn:n=m:=by rw [← h0.len];exact l0
 subst hn
 rw [l0]
 obtain ⟨x0,hbel⟩:=box_cfg w P T A M W Q
 obtain ⟨w1,hw1⟩:∃ x:World,x=w.alloc (.cells #[.int .i64 P,.int .i64 T,.int .i64 A,.int .i64 M,.int .i64 W,.int .i64 Q] 28):=⟨_,rfl⟩
 rw [← hw1] at x0 hbel
 have x2:=Blk.new w1 22 [.slice D n c]
 have hk:Below w1.heap.size w1 (w1.alloc (.cells #[.slice D n c] 22)):=(Below.refl _ _).alloc (Nat.le_refl _) _
 obtain ⟨w2,hw2⟩:∃ x:World,x=w1.alloc (.cells #[.slice D n c] 22):=⟨_,rfl⟩
 change Blk (w1.alloc (.cells #[.slice D n c] 22)) _ _ _ at x2
 rw [← hw2] at x2 hk
 have B2:=Lh (hbel.trans (hk.mono hbel.size))
 have R0:=Lh (h0.below B2.out)
 have X0:=Lh (x0.below hk x0.lt)
 have ck:=pcheck14_any P T A M W Q p w1.heap.size [((D,n,c),mk)] w2 x2 (by
  intro r hr
  simp only [List.mem_cons,List.not_mem_nil,or_false] at hr
  subst hr
  exact ⟨R0.out,y0⟩) (by simp)
 rw [show (List.map (·.2) ([((D,n,c),mk)]:List St))=[mk] from rfl,df_one] at ck
 obtain ⟨k0,k1,k2,k3,k4,k5⟩:=x0.cfg
 rw [hE] at ck
 have CK:=Lh ck
 have AL:=Lh (fun wx=>All_any T wx)
 have s1:=all_set hc
 have hme:manyE T=0:=by unfold manyE;rw [if_pos (by unfold mayC at hc;omega)]
 rw [hme] at AL
 have HL:=Lh (show (allB T).length=n by rw [s1.len,← pag_pgs hc];exact hm.symm)
 have WR:=Lh (fun g2 D5 c5 wx hx a2=>pwr_fill hc hp n hm D c mk g2 D5 c5 wx hx a2 s0 s1)
 obtain ⟨o,ho⟩:∃ o,o=outW mk (allB T) (difW (allB T) mk) n:=⟨_,rfl⟩
 obtain ⟨l,hl⟩:∃ l,l=actW (whP T A p (allB T) (difW (allB T) mk) n):=⟨_,rfl⟩
 rw [← ho,← hl] at WR
 rw [← ho,← hl]
 obtain ⟨v,hv⟩:∃ v,v=allB T:=⟨_,rfl⟩
 rw [← hv] at AL HL WR
 clear ck hE h0 y0 x0 hbel x2 hk ho hl hv s0 s1 l0 hm0 hc hp hm hme
 go_enter Try.func10,Try.ntmps10
 go_upto_region 1 with fail
 rw [← hw1]
 clear hw1
 go_wp2_with fail
 rw [← hw2]
 clear hw2
 refine CK.out.mono ?_
 rintro e w3 ⟨rfl,hb⟩
 have B3:=Lh (B2.out.trans (hb.mono B2.out.size))
 have X0:=Lh (X0.out.below hb X0.out.lt)
 have R0:=Lh (R0.out.below hb)
 clear hb CK k0 k1 k2 k3 k4 k5
 have k1:w3.cell? ⟨w.heap.size,1,none⟩=some (.int .i64 T):=X0.out.cell 1
 go_wp2_with fail
 refine (AL.out _).mono ?_
 intro e w5 hout
 obtain ⟨A5,r5,rfl,hown,hb⟩:=hout.len rfl HL.out
 have x5:=Blk.new w5 22 [.slice A5 n r5]
 have hk:Below w5.heap.size w5 (w5.alloc (.cells #[.slice A5 n r5] 22)):=(Below.refl _ _).alloc (Nat.le_refl _) _
 obtain ⟨w6,hw6⟩:∃ x:World,x=w5.alloc (.cells #[.slice A5 n r5] 22):=⟨_,rfl⟩
 change Blk (w5.alloc (.cells #[.slice A5 n r5] 22)) _ _ _ at x5
 rw [← hw6] at x5 hk
 have hb6:=hb.trans (hk.mono hb.size)
 have B6:=Lh (B3.out.trans (hb6.mono B3.out.size))
 have X0:=Lh (X0.out.below hb6 X0.out.lt)
 have WR:=Lh (WR.out w5.heap.size A5 r5 w6 (R0.out.below hb6) ⟨x5,(Arg.own hown).below hk⟩)
 clear hout hown hb k1 AL x5 hk hb6
 obtain ⟨k0,k1,k2,k3,k4,k5⟩:=X0.out.cfg
 go_upto_region 5 with fail
 rw [← hw6]
 clear hw6
 go_wp2_with fail
 refine WR.out.mono ?_
 rintro e w7 ⟨A7,r7,A7',r7',rfl,hown,hact,hb⟩
 have OW:=Lh (owns_base hown B6.out.size)
 have AC:=Lh (hact.lower B6.out.size)
 have BF:=Lh (B6.out.trans (hb.mono B6.out.size))
 clear hown hact hb WR k0 k1 k2 k3 k4 k5
 go_wp2
 go_ret3
 exact ⟨A7,r7,A7',r7',rfl,OW.out,AC.out,BF.out⟩
theorem diff_does:DiffDoes where
 mark P T A M W Q p D n c mk D1 n1 c1 wk t w h0 h1 y0 y1 _ _:=by
  unfold dmB dmP dmE
  by_cases hE:dfE P T A M W Q p mk wk=0
  ·rw [if_pos hE]
   by_cases ht:0≤t∧t < T
   ·rw [if_pos ht,if_pos rfl,if_pos rfl]
    exact pmark14_yes P T A M W Q p D n c mk D1 n1 c1 wk t w h0 h1 y0 y1 hE ht
   ·rw [if_neg ht,if_neg (by decide),if_neg (by decide)]
    exact pmark14_t P T A M W Q p D n c mk D1 n1 c1 wk t w h0 h1 y0 y1 hE ht
  ·rw [if_neg hE,if_neg hE,if_neg hE]
   exact pmark14_e P T A M W Q p D n c mk D1 n1 c1 wk t w h0 h1 y0 y1 hE
 clean P T A M W Q p D n c mk D1 n1 c1 wk w h0 h1 y0 y1 _ _:=by
  unfold dcB dcP
  by_cases hE:dfE P T A M W Q p mk wk=0
  ·rw [if_pos hE,if_pos hE,hE]
   exact pclean14_yes P T A M W Q p D n c mk D1 n1 c1 wk w h0 h1 y0 y1 hE
  ·rw [if_neg hE,if_neg hE]
   exact pclean14_e P T A M W Q p D n c mk D1 n1 c1 wk w h0 h1 y0 y1 hE
 fill P T A M W Q p D n c mk w h0 y0 _:=by
  unfold diB diP
  by_cases hE:dfE P T A M W Q p mk mk=0
  ·rw [if_pos hE,if_pos hE,hE]
   exact pfill14_yes P T A M W Q p D n c mk w h0 y0 hE
  ·rw [if_neg hE,if_neg hE]
   exact pfill14_e P T A M W Q p D n c mk w h0 y0 hE
end Go.Proofs.Ytdbeiikaeccbhaa
