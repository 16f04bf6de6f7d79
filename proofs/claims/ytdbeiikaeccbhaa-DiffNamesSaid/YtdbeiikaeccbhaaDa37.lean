/- Texts of the layers below, joined. -/
import Derived.Test.YtdbeiikaeccbhaaDa28
import Derived.Test.YtdbeiikaeccbhaaDa36
set_option maxRecDepth 100000
set_option maxHeartbeats 12800000
set_option linter.unusedVariables false
namespace Go.Proofs.Ytdbeiikaeccbhaa
open Go.RowKit
set_option maxRecDepth 100000
def MkOut (w:World) (o:Txt) (l:List Ac) (E:Int) (e:Ending) (w':World):Prop :=
 ∃ A c A' c',e=.returned (.tuple #[.slice A o.length c,.slice A' l.length c',.int .i64 E])∧w'.ownsRow w.heap.size 5 1 (.slice A o.length c) o.length (ints .u8 o)∧OwnActs w' w.heap.size A' l.length c' l∧Below w.heap.size w w'
theorem df_zero {P T A M W Q p:Int} {a b:Txt} (h:dfE P T A M W Q p a b=0):mayC P T A M W Q∧(0≤p∧p < P)∧may T.toNat a∧may T.toNat b:=by
 unfold dfE at h
 split at h
 ·split at h
  ·split at h
   ·rename_i h1 h2 h3
    exact ⟨h1,h2,h3.1,h3.2⟩
   ·cases h
  ·cases h
 ·cases h
theorem may_set {P T A M W Q:Int} (hc:mayC P T A M W Q) {a:Txt} (h:may T.toNat a) (hb:∀ z ∈ a,isByte z):IsSet T.toNat a∧a.length=(pagC T).toNat:=by
 have hs:=(may_isSet (by unfold mayC at hc;omega) hb).1 h
 exact ⟨hs,by rw [hs.len,pag_pgs hc]⟩
theorem rclean14_e (P T A M W Q p:Int) (D:Option Addr) (n c:Nat) (mk:Txt) (D1:Option Addr) (n1 c1:Nat) (wk:Txt) (w:World) (h0:Arg w .u8 D n c mk) (h1:Arg w .u8 D1 n1 c1 wk) (y0:∀ z ∈ mk,isByte z) (y1:∀ z ∈ wk,isByte z) (hE:dfE P T A M W Q p mk wk≠0) :
  Calls Try.prog 15 #[cfgV P T A M W Q,.int .i64 p,.slice D n c,.slice D1 n1 c1] w (MkOut w [] [] (dfE P T A M W Q p mk wk)):=by
 obtain ⟨x,hbel⟩:=box_cfg w P T A M W Q
 obtain ⟨w1,hw1⟩:∃ x:World,x=w.alloc (.cells #[.int .i64 P,.int .i64 T,.int .i64 A,.int .i64 M,.int .i64 W,.int .i64 Q] 28):=⟨_,rfl⟩
 rw [← hw1] at x hbel
 have X:=Lh x
 have B:=Lh hbel
 have R0:=Lh (h0.below hbel)
 have R1:=Lh (h1.below hbel)
 have AS:=Lh (fun wx (hx:Arg wx .u8 D n c mk) (hy:Arg wx .u8 D1 n1 c1 wk)=>rasked_any P T A M W Q p D n c mk D1 n1 c1 wk wx hx hy y0 y1)
 obtain ⟨k0,k1,k2,k3,k4,k5⟩:=x.cfg
 obtain ⟨E,hE0⟩:∃ E,E=dfE P T A M W Q p mk wk:=⟨_,rfl⟩
 rw [← hE0] at AS hE ⊢
 have q1:(E != 0)=true:=bne_iff_ne.2 hE
 clear hE hE0 h0 h1 y0 y1 x hbel
 go_enter Try.func15,Try.ntmps15
 go_wp2_with fail
 rw [← hw1]
 clear hw1
 refine (AS.out _ R0.out R1.out).mono ?_
 rintro e w2 ⟨rfl,hb⟩
 have B:=Lh (B.out.trans (hb.mono B.out.size))
 have X:=Lh (X.out.below hb X.out.lt)
 have R0:=Lh (R0.out.below hb)
 have R1:=Lh (R1.out.below hb)
 clear hb k0 k1 k2 k3 k4 k5 AS
 obtain ⟨k0,k1,k2,k3,k4,k5⟩:=X.out.cfg
 go_wp2
 go_ret3
 exact ⟨none,0,none,0,rfl,World.ownsRow_nil _ _ _ _,OwnActs.nil _ _,B.out⟩
theorem rclean14_yes (P T A M W Q p:Int) (D:Option Addr) (n c:Nat) (mk:Txt) (D1:Option Addr) (n1 c1:Nat) (wk:Txt) (w:World) (h0:Arg w .u8 D n c mk) (h1:Arg w .u8 D1 n1 c1 wk) (y0:∀ z ∈ mk,isByte z) (y1:∀ z ∈ wk,isByte z) (hE:dfE P T A M W Q p mk wk=0) :
  Calls Try.prog 15 #[cfgV P T A M W Q,.int .i64 p,.slice D n c,.slice D1 n1 c1] w (MkOut w (outW mk (bothL T.toNat mk wk) (difW (bothL T.toNat mk wk) mk) mk.length) (actW (whP T A p (bothL T.toNat mk wk) (difW (bothL T.toNat mk wk) mk) mk.length)) 0):=by
 obtain ⟨x,hbel⟩:=box_cfg w P T A M W Q
 obtain ⟨w1,hw1⟩:∃ x:World,x=w.alloc (.cells #[.int .i64 P,.int .i64 T,.int .i64 A,.int .i64 M,.int .i64 W,.int .i64 Q] 28):=⟨_,rfl⟩
 rw [← hw1] at x hbel
 have X:=Lh x
 have B:=Lh hbel
 have R0:=Lh (h0.below hbel)
 have R1:=Lh (h1.below hbel)
 have AS:=Lh (fun wx (hx:Arg wx .u8 D n c mk) (hy:Arg wx .u8 D1 n1 c1 wk)=>rasked_any P T A M W Q p D n c mk D1 n1 c1 wk wx hx hy y0 y1)
 rw [hE] at AS
 obtain ⟨hc,hp,hm0,hm1⟩:=df_zero hE
 obtain ⟨s0,l0⟩:=may_set hc hm0 y0
 obtain ⟨s1,l1⟩:=may_set hc hm1 y1
 obtain ⟨m,hm⟩:∃ m,m=(pagC T).toNat:=⟨_,rfl⟩
 rw [← hm] at l0 l1
 have hn:n=m:=by rw [← h0.len];exact l0
 have hn1:n1=m:=by rw [← h1.len];exact l1
 subst hn1
 subst hn
 have IN:=Lh (fun wx (hx:Arg wx .u8 D n c mk) (hy:Arg wx .u8 D1 n c1 wk)=>rcleaned_any hc hp n hm D c mk D1 c1 wk wx hx hy s0 s1)
 rw [l0]
 obtain ⟨o,ho⟩:∃ o,o=outW mk (bothL T.toNat mk wk) (difW (bothL T.toNat mk wk) mk) n:=⟨_,rfl⟩
 obtain ⟨l,hl⟩:∃ l,l=actW (whP T A p (bothL T.toNat mk wk) (difW (bothL T.toNat mk wk) mk) n):=⟨_,rfl⟩
 rw [← ho,← hl] at IN ⊢
 unfold WrOut at IN
 obtain ⟨no,hno⟩:∃ n,n=o.length:=⟨_,rfl⟩
 obtain ⟨nl,hnl⟩:∃ n,n=l.length:=⟨_,rfl⟩
 have HNO:=Lh hno.symm
 have HNL:=Lh hnl.symm
 rw [← hno,← hnl] at IN
 obtain ⟨k0,k1,k2,k3,k4,k5⟩:=x.cfg
 clear hE hc hp hm0 hm1 s0 l0 s1 l1 hm ho hl hno hnl h0 h1 y0 y1 x hbel
 go_enter Try.func15,Try.ntmps15
 go_wp2_with fail
 rw [← hw1]
 clear hw1
 refine (AS.out _ R0.out R1.out).mono ?_
 rintro e w2 ⟨rfl,hb⟩
 have B:=Lh (B.out.trans (hb.mono B.out.size))
 have X:=Lh (X.out.below hb X.out.lt)
 have R0:=Lh (R0.out.below hb)
 have R1:=Lh (R1.out.below hb)
 clear hb k0 k1 k2 k3 k4 k5 AS
 obtain ⟨k0,k1,k2,k3,k4,k5⟩:=X.out.cfg
 go_wp2_with fail
 refine (IN.out _ R0.out R1.out).mono ?_
 rintro e w4 ⟨A4,r4,A4',r4',rfl,hown,hact,hb⟩
 have FO:=Lh (owns_base hown B.out.size)
 have FA:=Lh (hact.lower B.out.size)
 have FB:=Lh (B.out.trans (hb.mono B.out.size))
 clear hown hact hb k0 k1 k2 k3 k4 k5
 go_wp2
 go_ret3
 exact ⟨A4,r4,A4',r4',by rw [HNO.out,HNL.out];rfl,by rw [HNO.out];exact FO.out,by rw [HNL.out];exact FA.out,FB.out⟩
theorem rclean14_any (P T A M W Q p:Int) (D:Option Addr) (n c:Nat) (mk:Txt) (D1:Option Addr) (n1 c1:Nat) (wk:Txt) (w:World) (h0:Arg w .u8 D n c mk) (h1:Arg w .u8 D1 n1 c1 wk) (y0:∀ z ∈ mk,isByte z) (y1:∀ z ∈ wk,isByte z) :
  Calls Try.prog 15 #[cfgV P T A M W Q,.int .i64 p,.slice D n c,.slice D1 n1 c1] w (MkOut w (dcB P T A M W Q p mk wk) (actW (dcP P T A M W Q p mk wk)) (dfE P T A M W Q p mk wk)):=by
 unfold dcB dcP
 by_cases hE:dfE P T A M W Q p mk wk=0
 ·rw [if_pos hE,if_pos hE,hE]
  exact rclean14_yes P T A M W Q p D n c mk D1 n1 c1 wk w h0 h1 y0 y1 hE
 ·rw [if_neg hE,if_neg hE]
  exact rclean14_e P T A M W Q p D n c mk D1 n1 c1 wk w h0 h1 y0 y1 hE
theorem rfill14_e (P T A M W Q p:Int) (D:Option Addr) (n c:Nat) (mk:Txt) (w:World) (h0:Arg w .u8 D n c mk) (y0:∀ z ∈ mk,isByte z) (hE:dfE P T A M W Q p mk mk≠0) :
  Calls Try.prog 16 #[cfgV P T A M W Q,.int .i64 p,.slice D n c] w (MkOut w [] [] (dfE P T A M W Q p mk mk)):=by
 obtain ⟨x,hbel⟩:=box_cfg w P T A M W Q
 obtain ⟨w1,hw1⟩:∃ x:World,x=w.alloc (.cells #[.int .i64 P,.int .i64 T,.int .i64 A,.int .i64 M,.int .i64 W,.int .i64 Q] 28):=⟨_,rfl⟩
 rw [← hw1] at x hbel
 have X:=Lh x
 have B:=Lh hbel
 have R0:=Lh (h0.below hbel)
 have AS:=Lh (fun wx (hx:Arg wx .u8 D n c mk) (hy:Arg wx .u8 D n c mk)=>rasked_any P T A M W Q p D n c mk D n c mk wx hx hy y0 y0)
 obtain ⟨k0,k1,k2,k3,k4,k5⟩:=x.cfg
 obtain ⟨E,hE0⟩:∃ E,E=dfE P T A M W Q p mk mk:=⟨_,rfl⟩
 rw [← hE0] at AS hE ⊢
 have q1:(E != 0)=true:=bne_iff_ne.2 hE
 clear hE hE0 h0 y0 x hbel
 go_enter Try.func16,Try.ntmps16
 go_wp2_with fail
 rw [← hw1]
 clear hw1
 refine (AS.out _ R0.out R0.out).mono ?_
 rintro e w2 ⟨rfl,hb⟩
 have B:=Lh (B.out.trans (hb.mono B.out.size))
 have X:=Lh (X.out.below hb X.out.lt)
 have R0:=Lh (R0.out.below hb)
 clear hb k0 k1 k2 k3 k4 k5 AS
 obtain ⟨k0,k1,k2,k3,k4,k5⟩:=X.out.cfg
 go_wp2
 go_ret3
 exact ⟨none,0,none,0,rfl,World.ownsRow_nil _ _ _ _,OwnActs.nil _ _,B.out⟩
theorem rfill14_yes (P T A M W Q p:Int) (D:Option Addr) (n c:Nat) (mk:Txt) (w:World) (h0:Arg w .u8 D n c mk) (y0:∀ z ∈ mk,isByte z) (hE:dfE P T A M W Q p mk mk=0) :
  Calls Try.prog 16 #[cfgV P T A M W Q,.int .i64 p,.slice D n c] w (MkOut w (outW mk (allB T) (difW (allB T) mk) mk.length) (actW (whP T A p (allB T) (difW (allB T) mk) mk.length)) 0):=by
 obtain ⟨x,hbel⟩:=box_cfg w P T A M W Q
 obtain ⟨w1,hw1⟩:∃ x:World,x=w.alloc (.cells #[.int .i64 P,.int .i64 T,.int .i64 A,.int .i64 M,.int .i64 W,.int .i64 Q] 28):=⟨_,rfl⟩
 rw [← hw1] at x hbel
 have X:=Lh x
 have B:=Lh hbel
 have R0:=Lh (h0.below hbel)
 have AS:=Lh (fun wx (hx:Arg wx .u8 D n c mk) (hy:Arg wx .u8 D n c mk)=>rasked_any P T A M W Q p D n c mk D n c mk wx hx hy y0 y0)
 rw [hE] at AS
 obtain ⟨hc,hp,hm0,hm1⟩:=df_zero hE
 obtain ⟨s0,l0⟩:=may_set hc hm0 y0
 obtain ⟨m,hm⟩:∃ m,m=(pagC T).toNat:=⟨_,rfl⟩
 rw [← hm] at l0
 have hn:n=m:=by rw [← h0.len];exact l0
 subst hn
 have IN:=Lh (fun wx (hx:Arg wx .u8 D n c mk)=>rfilled_any hc hp n hm D c mk wx hx s0)
 rw [l0]
 obtain ⟨o,ho⟩:∃ o,o=outW mk (allB T) (difW (allB T) mk) n:=⟨_,rfl⟩
 obtain ⟨l,hl⟩:∃ l,l=actW (whP T A p (allB T) (difW (allB T) mk) n):=⟨_,rfl⟩
 rw [← ho,← hl] at IN ⊢
 unfold WrOut at IN
 obtain ⟨no,hno⟩:∃ n,n=o.length:=⟨_,rfl⟩
 obtain ⟨nl,hnl⟩:∃ n,n=l.length:=⟨_,rfl⟩
 have HNO:=Lh hno.symm
 have HNL:=Lh hnl.symm
 rw [← hno,← hnl] at IN
 obtain ⟨k0,k1,k2,k3,k4,k5⟩:=x.cfg
 clear hE hc hp hm0 hm1 s0 l0 hm ho hl hno hnl h0 y0 x hbel
 go_enter Try.func16,Try.ntmps16
 go_wp2_with fail
 rw [← hw1]
 clear hw1
 refine (AS.out _ R0.out R0.out).mono ?_
 rintro e w2 ⟨rfl,hb⟩
 have B:=Lh (B.out.trans (hb.mono B.out.size))
 have X:=Lh (X.out.below hb X.out.lt)
 have R0:=Lh (R0.out.below hb)
 clear hb k0 k1 k2 k3 k4 k5 AS
 obtain ⟨k0,k1,k2,k3,k4,k5⟩:=X.out.cfg
 go_wp2_with fail
 refine (IN.out _ R0.out).mono ?_
 rintro e w4 ⟨A4,r4,A4',r4',rfl,hown,hact,hb⟩
 have FO:=Lh (owns_base hown B.out.size)
 have FA:=Lh (hact.lower B.out.size)
 have FB:=Lh (B.out.trans (hb.mono B.out.size))
 clear hown hact hb k0 k1 k2 k3 k4 k5
 go_wp2
 go_ret3
 exact ⟨A4,r4,A4',r4',by rw [HNO.out,HNL.out];rfl,by rw [HNO.out];exact FO.out,by rw [HNL.out];exact FA.out,FB.out⟩
theorem rfill14_any (P T A M W Q p:Int) (D:Option Addr) (n c:Nat) (mk:Txt) (w:World) (h0:Arg w .u8 D n c mk) (y0:∀ z ∈ mk,isByte z) :
  Calls Try.prog 16 #[cfgV P T A M W Q,.int .i64 p,.slice D n c] w (MkOut w (diB P T A M W Q p mk) (actW (diP P T A M W Q p mk)) (dfE P T A M W Q p mk mk)):=by
 unfold diB diP
 by_cases hE:dfE P T A M W Q p mk mk=0
 ·rw [if_pos hE,if_pos hE,hE]
  exact rfill14_yes P T A M W Q p D n c mk w h0 y0 hE
 ·rw [if_neg hE,if_neg hE]
  exact rfill14_e P T A M W Q p D n c mk w h0 y0 hE
theorem rmark14_e (P T A M W Q p:Int) (D:Option Addr) (n c:Nat) (mk:Txt) (D1:Option Addr) (n1 c1:Nat) (wk:Txt) (t:Int) (w:World) (h0:Arg w .u8 D n c mk) (h1:Arg w .u8 D1 n1 c1 wk) (y0:∀ z ∈ mk,isByte z) (y1:∀ z ∈ wk,isByte z) (hE:dfE P T A M W Q p mk wk≠0) :
  Calls Try.prog 13 #[cfgV P T A M W Q,.int .i64 p,.slice D n c,.slice D1 n1 c1,.int .i64 t] w (MkOut w [] [] (dfE P T A M W Q p mk wk)):=by
 obtain ⟨x,hbel⟩:=box_cfg w P T A M W Q
 obtain ⟨w1,hw1⟩:∃ x:World,x=w.alloc (.cells #[.int .i64 P,.int .i64 T,.int .i64 A,.int .i64 M,.int .i64 W,.int .i64 Q] 28):=⟨_,rfl⟩
 rw [← hw1] at x hbel
 have X:=Lh x
 have B:=Lh hbel
 have R0:=Lh (h0.below hbel)
 have R1:=Lh (h1.below hbel)
 have AS:=Lh (fun wx (hx:Arg wx .u8 D n c mk) (hy:Arg wx .u8 D1 n1 c1 wk)=>rasked_any P T A M W Q p D n c mk D1 n1 c1 wk wx hx hy y0 y1)
 obtain ⟨k0,k1,k2,k3,k4,k5⟩:=x.cfg
 obtain ⟨E,hE0⟩:∃ E,E=dfE P T A M W Q p mk wk:=⟨_,rfl⟩
 rw [← hE0] at AS hE ⊢
 have q1:(E != 0)=true:=bne_iff_ne.2 hE
 have q2:(E == 0)=false:=beq_eq_false_iff_ne.2 hE
 clear hE hE0 h0 h1 y0 y1 x hbel
 go_enter Try.func13,Try.ntmps13
 go_wp2_with fail
 rw [← hw1]
 clear hw1
 refine (AS.out _ R0.out R1.out).mono ?_
 rintro e w2 ⟨rfl,hb⟩
 have B:=Lh (B.out.trans (hb.mono B.out.size))
 have X:=Lh (X.out.below hb X.out.lt)
 have R0:=Lh (R0.out.below hb)
 have R1:=Lh (R1.out.below hb)
 clear hb k0 k1 k2 k3 k4 k5 AS
 obtain ⟨k0,k1,k2,k3,k4,k5⟩:=X.out.cfg
 go_wp2
 go_ret3
 exact ⟨none,0,none,0,rfl,World.ownsRow_nil _ _ _ _,OwnActs.nil _ _,B.out⟩
theorem rmark14_lo (P T A M W Q p:Int) (D:Option Addr) (n c:Nat) (mk:Txt) (D1:Option Addr) (n1 c1:Nat) (wk:Txt) (t:Int) (w:World) (h0:Arg w .u8 D n c mk) (h1:Arg w .u8 D1 n1 c1 wk) (y0:∀ z ∈ mk,isByte z) (y1:∀ z ∈ wk,isByte z) (hE:dfE P T A M W Q p mk wk=0) (ht:t < 0) :
  Calls Try.prog 13 #[cfgV P T A M W Q,.int .i64 p,.slice D n c,.slice D1 n1 c1,.int .i64 t] w (MkOut w [] [] 2):=by
 obtain ⟨x,hbel⟩:=box_cfg w P T A M W Q
 obtain ⟨w1,hw1⟩:∃ x:World,x=w.alloc (.cells #[.int .i64 P,.int .i64 T,.int .i64 A,.int .i64 M,.int .i64 W,.int .i64 Q] 28):=⟨_,rfl⟩
 rw [← hw1] at x hbel
 have X:=Lh x
 have B:=Lh hbel
 have R0:=Lh (h0.below hbel)
 have R1:=Lh (h1.below hbel)
 have AS:=Lh (fun wx (hx:Arg wx .u8 D n c mk) (hy:Arg wx .u8 D1 n1 c1 wk)=>rasked_any P T A M W Q p D n c mk D1 n1 c1 wk wx hx hy y0 y1)
 obtain ⟨k0,k1,k2,k3,k4,k5⟩:=x.cfg
 rw [hE] at AS
 have q1:decide (t < 0)=true:=decide_eq_true ht
 clear hE h0 h1 y0 y1 x hbel
 go_enter Try.func13,Try.ntmps13
 go_wp2_with fail
 rw [← hw1]
 clear hw1
 refine (AS.out _ R0.out R1.out).mono ?_
 rintro e w2 ⟨rfl,hb⟩
 have B:=Lh (B.out.trans (hb.mono B.out.size))
 have X:=Lh (X.out.below hb X.out.lt)
 have R0:=Lh (R0.out.below hb)
 have R1:=Lh (R1.out.below hb)
 clear hb k0 k1 k2 k3 k4 k5 AS
 obtain ⟨k0,k1,k2,k3,k4,k5⟩:=X.out.cfg
 go_wp2
 go_ret3
 exact ⟨none,0,none,0,rfl,World.ownsRow_nil _ _ _ _,OwnActs.nil _ _,B.out⟩
theorem rmark14_hi (P T A M W Q p:Int) (D:Option Addr) (n c:Nat) (mk:Txt) (D1:Option Addr) (n1 c1:Nat) (wk:Txt) (t:Int) (w:World) (h0:Arg w .u8 D n c mk) (h1:Arg w .u8 D1 n1 c1 wk) (y0:∀ z ∈ mk,isByte z) (y1:∀ z ∈ wk,isByte z) (hE:dfE P T A M W Q p mk wk=0) (ht:¬ t < 0) (ht2:T≤t) :
  Calls Try.prog 13 #[cfgV P T A M W Q,.int .i64 p,.slice D n c,.slice D1 n1 c1,.int .i64 t] w (MkOut w [] [] 2):=by
 obtain ⟨x,hbel⟩:=box_cfg w P T A M W Q
 obtain ⟨w1,hw1⟩:∃ x:World,x=w.alloc (.cells #[.int .i64 P,.int .i64 T,.int .i64 A,.int .i64 M,.int .i64 W,.int .i64 Q] 28):=⟨_,rfl⟩
 rw [← hw1] at x hbel
 have X:=Lh x
 have B:=Lh hbel
 have R0:=Lh (h0.below hbel)
 have R1:=Lh (h1.below hbel)
 have AS:=Lh (fun wx (hx:Arg wx .u8 D n c mk) (hy:Arg wx .u8 D1 n1 c1 wk)=>rasked_any P T A M W Q p D n c mk D1 n1 c1 wk wx hx hy y0 y1)
 obtain ⟨k0,k1,k2,k3,k4,k5⟩:=x.cfg
 rw [hE] at AS
 have q1:decide (t < 0)=false:=decide_eq_false ht
 have q2:decide (T≤t)=true:=decide_eq_true ht2
 clear hE h0 h1 y0 y1 x hbel
 go_enter Try.func13,Try.ntmps13
 go_wp2_with fail
 rw [← hw1]
 clear hw1
 refine (AS.out _ R0.out R1.out).mono ?_
 rintro e w2 ⟨rfl,hb⟩
 have B:=Lh (B.out.trans (hb.mono B.out.size))
 have X:=Lh (X.out.below hb X.out.lt)
 have R0:=Lh (R0.out.below hb)
 have R1:=Lh (R1.out.below hb)
 clear hb k0 k1 k2 k3 k4 k5 AS
 obtain ⟨k0,k1,k2,k3,k4,k5⟩:=X.out.cfg
 go_wp2
 go_ret3
 exact ⟨none,0,none,0,rfl,World.ownsRow_nil _ _ _ _,OwnActs.nil _ _,B.out⟩
theorem rmark14_yes (P T A M W Q p:Int) (D:Option Addr) (n c:Nat) (mk:Txt) (D1:Option Addr) (n1 c1:Nat) (wk:Txt) (t:Int) (w:World) (h0:Arg w .u8 D n c mk) (h1:Arg w .u8 D1 n1 c1 wk) (y0:∀ z ∈ mk,isByte z) (y1:∀ z ∈ wk,isByte z) (hE:dfE P T A M W Q p mk wk=0) (ht:0≤t∧t < T) :
  Calls Try.prog 13 #[cfgV P T A M W Q,.int .i64 p,.slice D n c,.slice D1 n1 c1,.int .i64 t] w (MkOut w (outW mk (dmS T mk wk t) (dmW mk t) mk.length) (actW (whP T A p (dmS T mk wk t) (dmW mk t) mk.length)) 0):=by
 obtain ⟨x,hbel⟩:=box_cfg w P T A M W Q
 obtain ⟨w1,hw1⟩:∃ x:World,x=w.alloc (.cells #[.int .i64 P,.int .i64 T,.int .i64 A,.int .i64 M,.int .i64 W,.int .i64 Q] 28):=⟨_,rfl⟩
 rw [← hw1] at x hbel
 have X:=Lh x
 have B:=Lh hbel
 have R0:=Lh (h0.below hbel)
 have R1:=Lh (h1.below hbel)
 have AS:=Lh (fun wx (hx:Arg wx .u8 D n c mk) (hy:Arg wx .u8 D1 n1 c1 wk)=>rasked_any P T A M W Q p D n c mk D1 n1 c1 wk wx hx hy y0 y1)
 rw [hE] at AS
 obtain ⟨hc,hp,hm0,hm1⟩:=df_zero hE
 obtain ⟨s0,l0⟩:=may_set hc hm0 y0
 obtain ⟨s1,l1⟩:=may_set hc hm1 y1
 obtain ⟨m,hm⟩:∃ m,m=(pagC T).toNat:=⟨_,rfl⟩
 rw [← hm] at l0 l1
 have hn:n=m:=by rw [← h0.len];exact l0
 have hn1:n1=m:=by rw [← h1.len];exact l1
 subst hn1
 subst hn
 obtain ⟨u,rfl⟩:∃ u:Nat,t=u:=⟨t.toNat,by omega⟩
 have q1:decide ((u:Int) < 0)=false:=decide_eq_false (by omega)
 have q2:decide (T≤(u:Int))=false:=decide_eq_false (by omega)
 have IN:=Lh (fun wx (hx:Arg wx .u8 D n c mk) (hy:Arg wx .u8 D1 n c1 wk)=>rmarked_any hc hp n hm D c mk D1 c1 wk u wx hx hy s0 s1 ht.2)
 rw [l0]
 obtain ⟨o,ho⟩:∃ o,o=outW mk (dmS T mk wk (u:Int)) (dmW mk (u:Int)) n:=⟨_,rfl⟩
 obtain ⟨l,hl⟩:∃ l,l=actW (whP T A p (dmS T mk wk (u:Int)) (dmW mk (u:Int)) n):=⟨_,rfl⟩
 rw [← ho,← hl] at IN ⊢
 unfold WrOut at IN
 obtain ⟨no,hno⟩:∃ n,n=o.length:=⟨_,rfl⟩
 obtain ⟨nl,hnl⟩:∃ n,n=l.length:=⟨_,rfl⟩
 have HNO:=Lh hno.symm
 have HNL:=Lh hnl.symm
 rw [← hno,← hnl] at IN
 obtain ⟨k0,k1,k2,k3,k4,k5⟩:=x.cfg
 clear hE hc hp hm0 hm1 s0 l0 s1 l1 hm ho hl hno hnl h0 h1 y0 y1 x hbel ht
 go_enter Try.func13,Try.ntmps13
 go_wp2_with fail
 rw [← hw1]
 clear hw1
 refine (AS.out _ R0.out R1.out).mono ?_
 rintro e w2 ⟨rfl,hb⟩
 have B:=Lh (B.out.trans (hb.mono B.out.size))
 have X:=Lh (X.out.below hb X.out.lt)
 have R0:=Lh (R0.out.below hb)
 have R1:=Lh (R1.out.below hb)
 clear hb k0 k1 k2 k3 k4 k5 AS
 obtain ⟨k0,k1,k2,k3,k4,k5⟩:=X.out.cfg
 go_wp2_with fail
 refine (IN.out _ R0.out R1.out).mono ?_
 rintro e w4 ⟨A4,r4,A4',r4',rfl,hown,hact,hb⟩
 have FO:=Lh (owns_base hown B.out.size)
 have FA:=Lh (hact.lower B.out.size)
 have FB:=Lh (B.out.trans (hb.mono B.out.size))
 clear hown hact hb k0 k1 k2 k3 k4 k5
 go_wp2
 go_ret3
 exact ⟨A4,r4,A4',r4',by rw [HNO.out,HNL.out];rfl,by rw [HNO.out];exact FO.out,by rw [HNL.out];exact FA.out,FB.out⟩
theorem rmark14_any (P T A M W Q p:Int) (D:Option Addr) (n c:Nat) (mk:Txt) (D1:Option Addr) (n1 c1:Nat) (wk:Txt) (t:Int) (w:World) (h0:Arg w .u8 D n c mk) (h1:Arg w .u8 D1 n1 c1 wk) (y0:∀ z ∈ mk,isByte z) (y1:∀ z ∈ wk,isByte z) :
  Calls Try.prog 13 #[cfgV P T A M W Q,.int .i64 p,.slice D n c,.slice D1 n1 c1,.int .i64 t] w (MkOut w (dmB P T A M W Q p mk wk t) (actW (dmP P T A M W Q p mk wk t)) (dmE P T A M W Q p mk wk t)):=by
 unfold dmB dmP dmE
 by_cases hE:dfE P T A M W Q p mk wk=0
 ·rw [if_pos hE]
  by_cases ht:0≤t∧t < T
  ·rw [if_pos ht,if_pos rfl,if_pos rfl]
   exact rmark14_yes P T A M W Q p D n c mk D1 n1 c1 wk t w h0 h1 y0 y1 hE ht
  ·rw [if_neg ht,if_neg (by decide),if_neg (by decide)]
   by_cases h:t < 0
   ·exact rmark14_lo P T A M W Q p D n c mk D1 n1 c1 wk t w h0 h1 y0 y1 hE h
   ·exact rmark14_hi P T A M W Q p D n c mk D1 n1 c1 wk t w h0 h1 y0 y1 hE h (by omega)
 ·rw [if_neg hE,if_neg hE,if_neg hE]
  exact rmark14_e P T A M W Q p D n c mk D1 n1 c1 wk t w h0 h1 y0 y1 hE
end Go.Proofs.Ytdbeiikaeccbhaa
namespace Go.Proofs.Ytdbeiikaeccbhaa
section
variable {P T A M W Q p t:Int} {S S3:List Sec} {set marks wk L3 s s':Txt} {wh:Nat→Bool} {m u:Nat}
theorem pg_same (h:s.getD (u / 8) 0=s'.getD (u / 8) 0):hasT s u=hasT s' u:=by unfold hasT pg;rw [h]
theorem df_track (hu:u / 8 < m) (h:L3.getD (u / 8) 0=marks.getD (u / 8) 0∨L3.getD (u / 8) 0=(outW marks set wh m).getD (u / 8) 0∨L3.getD (u / 8) 0=fulP T (u / 8)) (h1:hasT marks u=true) (h2:hasT set u=true) (h3:hasT (allB T) u=true):hasT L3 u=true:=by
 rcases h with h | h | h
 ·rw [pg_same h];exact h1
 ·rw [outW_at hu] at h
  split at h
  ·rw [pg_same h];exact h2
  ·rw [pg_same h];exact h1
 ·rw [pg_same (s':=allB T) h];exact h3
theorem out_has (hu:u / 8 < m) (h1:wh (u / 8)=false→hasT marks u=true) (h2:wh (u / 8)=true→hasT set u=true):hasT (outW marks set wh m) u=true:=by
 have h:=outW_at (marks:=marks) (set:=set) (wh:=wh) hu
 cases hw:wh (u / 8) with
 | true=>rw [if_pos hw] at h;rw [pg_same h];exact h2 hw
 | false=>rw [if_neg (by rw [hw];decide)] at h;rw [pg_same h];exact h1 hw
theorem trk_in {l:Txt} {k:Nat} (hc:chk T l=0) (hk:(k:Int) < T):trkE T l k=0∧hasV T l k=hasT l k:=by
 have h:trkE T l k=0:=by unfold trkE;rw [if_pos hc,if_pos ⟨by omega,hk⟩]
 refine ⟨h,?_⟩
 unfold hasV
 rw [decide_eq_true h,Bool.true_and,Int.toNat_natCast]
theorem has_of {l:Txt} {k:Nat} (h:hasV T l k=true):hasT l k=true:=by
 unfold hasV at h
 rw [Bool.and_eq_true,Int.toNat_natCast] at h
 exact h.2
theorem page_lt (hc:mayC P T A M W Q) (hu:u < T.toNat):u / 8 < (pagC T).toNat:=by
 rw [pag_pgs hc];unfold pgs;omega
theorem all_has (hc:mayC P T A M W Q) (hu:u < T.toNat):hasT (allB T) u=true:=by
 unfold allB
 rw [if_pos (many_zero hc).1,hasT_made,decide_eq_true hu]
 rfl
theorem all_set (hc:mayC P T A M W Q):IsSet T.toNat (allB T):=by
 unfold allB
 rw [if_pos (many_zero hc).1]
 exact made_isSet _ _
theorem dc_loop (hc:mayC P T A M W Q) (hm:m=(pagC T).toNat) (hS:∀ s ∈ S,∀ z ∈ s.2,isByte z) (hS3:∀ s ∈ S3,∀ z ∈ s.2,isByte z)
  (hpg:∀ j,j < m→(mkL T A S3 [] p m).getD j 0=(mkL T A S [] p m).getD j 0∨(mkL T A S3 [] p m).getD j 0=(outW (mkL T A S [] p m) set wh m).getD j 0∨(mkL T A S3 [] p m).getD j 0=fulP T j)
  (hkeep:∀ u,u < T.toNat→hasT (mkL T A S [] p m) u=true→hasT wk u=true→hasT set u=true) (k:Nat) (hk:(k:Int) < T) :
  trkE T (mkL T A S [] p m) k=0∧trkE T (mkL T A S3 [] p m) k=0∧(hasV T (mkL T A S [] p m) k=true→hasV T wk k=true→hasV T (mkL T A S3 [] p m) k=true):=by
 subst hm
 obtain ⟨e1,v1⟩:=trk_in (mk_chk (p:=p) (C:=[]) hc hS (by simp)) hk
 obtain ⟨e2,v2⟩:=trk_in (mk_chk (p:=p) (C:=[]) hc hS3 (by simp)) hk
 refine ⟨e1,e2,fun h1 h2=>?_⟩
 rw [v2]
 have hu:k < T.toNat:=by omega
 exact df_track (page_lt hc hu) (hpg _ (page_lt hc hu)) (has_of h1) (hkeep k hu (has_of h1) (has_of h2)) (all_has hc hu)
theorem keep_mark (u:Nat) (hu:u < T.toNat) (h1:hasT marks u=true) (h2:hasT wk u=true):hasT (dmS T marks wk t) u=true:=by
 unfold dmS
 rw [hasT_made,decide_eq_true hu,h1,h2]
 split <;> rfl
theorem keep_clean (u:Nat) (hu:u < T.toNat) (h1:hasT marks u=true) (h2:hasT wk u=true):hasT (bothL T.toNat marks wk) u=true:=by
 unfold bothL
 rw [hasT_made,decide_eq_true hu,h1,h2]
 rfl
theorem mark_told (hc:mayC P T A M W Q) (h0:0≤t∧t < T):hasT (outW marks (dmS T marks wk t) (dmW marks t) (pagC T).toNat) t.toNat=true:=by
 have hu:t.toNat < T.toNat:=by omega
 refine out_has (page_lt hc hu) (fun h=>?_) (fun _=>?_)
 ·unfold dmW at h
  simpa using h
 ·unfold dmS
  rw [hasT_made,decide_eq_true hu,if_pos rfl]
  rfl
theorem set_sub (hc:mayC P T A M W Q) (h:IsSet T.toNat s) (n:Nat):subP (s.getD n 0) (fulP T n):=by
 unfold subP fulP
 refine Nat.eq_of_testBit_eq fun i=>?_
 rw [Nat.testBit_and]
 by_cases hi:i < 8
 ·have e1:(8 * n + i) / 8=n:=by omega
  have e2:(8 * n + i) % 8=i:=by omega
  have a1:hasT s (8 * n + i)=(s.getD n 0).toNat.testBit i:=by unfold hasT pg;rw [e1,e2]
  have a2:hasT (allB T) (8 * n + i)=((allB T).getD n 0).toNat.testBit i:=by unfold hasT pg;rw [e1,e2]
  rw [← a1,← a2]
  by_cases hu:8 * n + i < T.toNat
  ·rw [all_has hc hu,Bool.and_true]
  ·rw [h.out _ (by omega),Bool.false_and]
 ·have hl:=pg_lt h.byte n
  unfold pg at hl
  have:(s.getD n 0).toNat.testBit i=false:=Nat.testBit_lt_two_pow (Nat.lt_of_lt_of_le hl (by
   calc 256=2 ^ 8:=rfl
    _≤2 ^ i:=Nat.pow_le_pow_right (by decide) (by omega)))
  rw [this,Bool.false_and]
end
end Go.Proofs.Ytdbeiikaeccbhaa
namespace Go.Proofs.Ytdbeiikaeccbhaa
open Go.RowKit
set_option maxRecDepth 100000
section
variable {P T A M W Q p:Int}
theorem pw14_ok (hc:mayC P T A M W Q) (hp:0≤p∧p < P) {set:Txt} (hs:IsSet T.toNat set) {k:Nat} (hk:k < (pagC T).toNat):pgeE P T A M W Q p (k:Int)=0∧subP (set.getD k 0) (fulP T (k:Int).toNat)∧isByte (set.getD k 0):=by
 refine ⟨?_,?_,byte_at hs.byte k⟩
 ·rw [pge_in hc (by omega),if_pos hp]
 ·rw [Int.toNat_natCast]
  exact set_sub hc hs k
theorem pw14_len (hc:mayC P T A M W Q) (set:Txt) (wh:Nat→Bool) {k:Nat} (hk:k < (pagC T).toNat):(wrA (whP T A p set wh k)).length≤100:=by
 rw [wrA_length]
 have h:=whP_len (T:=T) (A:=A) (p:=p) (set:=set) (wh:=wh) k
 have:=pag_is hc
 omega
theorem pw14_hok (hc:mayC P T A M W Q) (hp:0≤p∧p < P) {mk set:Txt} (hm:IsSet T.toNat mk) (hs:IsSet T.toNat set) (b:Bool) {k:Nat} (hk:k < (pagC T).toNat):pgeE P T A M W Q p (k:Int)=0∧subP (if b=true then set.getD k 0 else mk.getD k 0) (fulP T (k:Int).toNat)∧isByte (if b=true then set.getD k 0 else mk.getD k 0):=by
 cases b
 ·exact pw14_ok hc hp hm hk
 ·exact pw14_ok hc hp hs hk
theorem pwr_mark (hc:mayC P T A M W Q) (hp:0≤p∧p < P) (n:Nat) (hn:n=(pagC T).toNat) (D:Option Addr) (c:Nat) (mk:Txt) (g1:Nat) (D1:Option Addr) (c1:Nat) (g2:Nat) (D2:Option Addr) (c2:Nat) (wk:Txt) (t:Int) (w:World)
  (h0:Arg w .u8 D n c mk) (x1:SBoxT w g1 D1 n c1 (oneT T.toNat t.toNat)) (x2:SBoxT w g2 D2 n c2 wk) (s0:IsSet T.toNat mk) (s1:IsSet T.toNat wk) (ht:0≤t∧t < T) :
  Calls Try.prog 24 #[volV P T A M W Q p D n c,.func (.func 25) #[] #[.pointer (some ⟨g1,0,none⟩),.pointer (some ⟨g2,0,none⟩)]] w (WrOut w (outW mk (dmS T mk wk t) (dmW mk t) n) (actW (whP T A p (dmS T mk wk t) (dmW mk t) n))):=by
 have hgi:=pag_is hc
 refine pwritten_of P T A M W Q p n (by omega) D c mk _ _ _ _ w h0 ?_
 intro k hk G V TO wx hcx hsx xv xt hb
 have hkp:k < (pagC T).toNat:=by omega
 have hset:IsSet T.toNat (dmS T mk wk t):=made_isSet _ _
 have h:=pput_mark G (G + 2) V TO g1 g2 P T A M W Q p D n c (k:Int) (mk.getD k 0) (if dmW mk t k=true then (dmS T mk wk t).getD k 0 else mk.getD k 0) (wrA (whP T A p (dmS T mk wk t) (dmW mk t) k)) wx hcx hsx xv xt (pw14_len hc _ _ hkp)
  (fun _=>pw14_hok hc hp s0 hset _ hkp) (fun wy hy=>pmark1_any g1 g2 D1 n c1 D2 n c2 T.toNat t.toNat mk wk k wy ((x1.below hb).below hy) ((x2.below hb).below hy) s0 s1 (by omega) hk hk (by omega))
 rw [whP_step (fun hw=>by
  have h2:=(mark_yes s0 s1 (by omega) hw).2.2
  intro e
  rw [pg_cast hset.byte,pg_cast s0.byte] at e
  exact h2 (by
   have:=Int.ofNat.inj e
   exact this))] at h
 exact h
theorem pwr_clean (hc:mayC P T A M W Q) (hp:0≤p∧p < P) (n:Nat) (hn:n=(pagC T).toNat) (D:Option Addr) (c:Nat) (mk:Txt) (g2:Nat) (D2:Option Addr) (c2:Nat) (wk:Txt) (w:World)
  (h0:Arg w .u8 D n c mk) (x2:SBoxT w g2 D2 n c2 wk) (s0:IsSet T.toNat mk) (s1:IsSet T.toNat wk) :
  Calls Try.prog 24 #[volV P T A M W Q p D n c,.func (.func 26) #[] #[.pointer (some ⟨g2,0,none⟩)]] w (WrOut w (outW mk (bothL T.toNat mk wk) (difW (bothL T.toNat mk wk) mk) n) (actW (whP T A p (bothL T.toNat mk wk) (difW (bothL T.toNat mk wk) mk) n))):=by
 have hgi:=pag_is hc
 refine pwritten_of P T A M W Q p n (by omega) D c mk _ _ _ _ w h0 ?_
 intro k hk G V TO wx hcx hsx xv xt hb
 have hkp:k < (pagC T).toNat:=by omega
 have hset:IsSet T.toNat (bothL T.toNat mk wk):=made_isSet _ _
 have h:=pput_clean G (G + 2) V TO g2 P T A M W Q p D n c (k:Int) (mk.getD k 0) (if difW (bothL T.toNat mk wk) mk k=true then (bothL T.toNat mk wk).getD k 0 else mk.getD k 0) (wrA (whP T A p (bothL T.toNat mk wk) (difW (bothL T.toNat mk wk) mk) k)) wx hcx hsx xv xt (pw14_len hc _ _ hkp)
  (fun _=>pw14_hok hc hp s0 hset _ hkp) (fun wy hy=>by rw [dif_told];exact pclean1_any g2 D2 n c2 T.toNat mk wk k wy ((x2.below hb).below hy) s0 s1 hk (by omega))
 rw [whP_step (fun hw=>dif_ne hw)] at h
 exact h
theorem pwr_fill (hc:mayC P T A M W Q) (hp:0≤p∧p < P) (n:Nat) (hn:n=(pagC T).toNat) (D:Option Addr) (c:Nat) (mk:Txt) (g2:Nat) (D2:Option Addr) (c2:Nat) (w:World)
  (h0:Arg w .u8 D n c mk) (x2:SBoxT w g2 D2 n c2 (allB T)) (s0:IsSet T.toNat mk) (s1:IsSet T.toNat (allB T)) :
  Calls Try.prog 24 #[volV P T A M W Q p D n c,.func (.func 28) #[] #[.pointer (some ⟨g2,0,none⟩)]] w (WrOut w (outW mk (allB T) (difW (allB T) mk) n) (actW (whP T A p (allB T) (difW (allB T) mk) n))):=by
 have hgi:=pag_is hc
 refine pwritten_of P T A M W Q p n (by omega) D c mk _ _ _ _ w h0 ?_
 intro k hk G V TO wx hcx hsx xv xt hb
 have hkp:k < (pagC T).toNat:=by omega
 have h:=pput_fill G (G + 2) V TO g2 P T A M W Q p D n c (k:Int) (mk.getD k 0) (if difW (allB T) mk k=true then (allB T).getD k 0 else mk.getD k 0) (wrA (whP T A p (allB T) (difW (allB T) mk) k)) wx hcx hsx xv xt (pw14_len hc _ _ hkp)
  (fun _=>pw14_hok hc hp s0 s1 _ hkp) (fun wy hy=>by rw [dif_told];exact pfill1_any g2 D2 n c2 (allB T) k (mk.getD k 0) wy ((x2.below hb).below hy) s1.byte hk (by omega))
 rw [whP_step (fun hw=>dif_ne hw)] at h
 exact h
end
end Go.Proofs.Ytdbeiikaeccbhaa
