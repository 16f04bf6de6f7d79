/- Texts of layers 1 to 12, joined. -/
import Derived.Test.YtifgcfepbenpjaaGreatNa30
import Derived.Deep.QuietTactic
import Derived.Deep.RegionHeld3
import Derived.Deep.Cut
set_option maxRecDepth 100000
set_option maxHeartbeats 12800000
set_option linter.unusedVariables false
namespace Go.Proofs.YtifgcfepbenpjaaGreat
open Go.RowKit
theorem plen_any (n:Nat) (hn:n≤3) (w:World):Calls Tryz.prog 177 #[.int .u64 (n:Int)] w fun e w'=>(∃ k,e=.returned (.int .i64 k))∧w'=w:=by
 have H:Calls Tryz.prog 201 #[.int .u64 (n:Int)] w fun e w'=>(∃ k,e=.returned (.int .i64 k))∧w'=w:=by
  match n,hn with
  | 0,_=>exact plen64_0 w
  | 1,_=>exact plen64_1 w
  | 2,_=>exact plen64_2 w
  | 3,_=>exact plen64_3 w
 have H:=Lh H
 obtain ⟨v,hv⟩:∃ v,v=(n:Int):=⟨_,rfl⟩
 rw [← hv] at H ⊢
 clear hv hn
 go_enter Tryz.func177,Tryz.ntmps177
 go_wp2_with fail
 refine H.out.mono ?_
 rintro e w1 ⟨⟨k,rfl⟩,rfl⟩
 go_wp2
 go_ret
 exact ⟨⟨_,rfl⟩,rfl⟩
theorem own_rec {w:World} {base g n c:Nat} {L:List Rc} (h:OwnRecs w base (some ⟨g,0,none⟩) n c L) {i:Nat} (hi:i < n):isR (L.getD i zR)∧(w.cell? ⟨g,i * 8,none⟩=some (.int .i64 (L.getD i zR).p)∧w.cell? ⟨g,i * 8 + 1,none⟩=some (.int .u32 (L.getD i zR).b)∧w.cell? ⟨g,i * 8 + 2,none⟩=some (.int .u32 (L.getD i zR).e) ∧
  w.cell? ⟨g,i * 8 + 3,none⟩=some (.int .i64 (L.getD i zR).l)∧w.cell? ⟨g,i * 8 + 4,none⟩=some (.int .u8 (L.getD i zR).h)∧w.cell? ⟨g,i * 8 + 5,none⟩=some (.int .i64 (L.getD i zR).f)∧w.cell? ⟨g,i * 8 + 6,none⟩=some (.bool (L.getD i zR).q)∧w.cell? ⟨g,i * 8 + 7,none⟩=some (.bool (L.getD i zR).a)):=by
 have hR:=Recs.of_own h
 obtain ⟨b,o,e,_,hc⟩:=hR.row hi
 injection e with e;injection e with e1 e2 _;subst e1;subst e2
 simp only [Nat.zero_add] at hc
 exact ⟨hR.is_at hi,hc⟩
theorem recsV_set (L:List Rc) (i:Nat) (s:Rc):recsV (L.set i s)=if i < L.length then (((((((((recsV L).set (i * 8) (.int .i64 s.p)).set (i * 8 + 1) (.int .u32 s.b)).set (i * 8 + 2) (.int .u32 s.e)).set (i * 8 + 3) (.int .i64 s.l)).set (i * 8 + 4) (.int .u8 s.h)).set (i * 8 + 5) (.int .i64 s.f)).set (i * 8 + 6) (.bool s.q)).set (i * 8 + 7) (.bool s.a)) else recsV L:=by
 induction L generalizing i with
 | nil=>simp [recsV]
 | cons r L ih =>
  cases i with
  | zero=>rw [if_pos (by simp)];rfl
  | succ i =>
   have e:recsV (r :: L)=.int .i64 r.p :: .int .u32 r.b :: .int .u32 r.e :: .int .i64 r.l :: .int .u8 r.h :: .int .i64 r.f :: .bool r.q :: .bool r.a :: recsV L:=rfl
   have e2:recsV (r :: L.set i s)=.int .i64 r.p :: .int .u32 r.b :: .int .u32 r.e :: .int .i64 r.l :: .int .u8 r.h :: .int .i64 r.f :: .bool r.q :: .bool r.a :: recsV (L.set i s):=rfl
   rw [scS,e2,e,ih]
   have e3:∀ k,(i + 1) * 8 + k=i * 8 + k + 1 + 1 + 1 + 1 + 1 + 1 + 1 + 1:=fun k=>by omega
   have e4:(i + 1) * 8=i * 8 + 1 + 1 + 1 + 1 + 1 + 1 + 1 + 1:=by omega
   by_cases h:i < L.length
   ·rw [if_pos h,if_pos (by simpa using h),e3,e3,e3,e3,e3,e3,e3,e4]
    simp only [scS]
   ·rw [if_neg h,if_neg (by simpa using h)]
theorem OwnRecs.eight {w:World} {base g n c:Nat} {L:List Rc} (h:OwnRecs w base (some ⟨g,0,none⟩) n c L) {i:Nat} (hi:i < n) {s:Rc} (hs:isR s) :
  OwnRecs ((((((((w.setCell ⟨g,i * 8,none⟩ (.int .i64 s.p)).setCell ⟨g,i * 8 + 1,none⟩ (.int .u32 s.b)).setCell ⟨g,i * 8 + 2,none⟩ (.int .u32 s.e)).setCell ⟨g,i * 8 + 3,none⟩ (.int .i64 s.l)).setCell ⟨g,i * 8 + 4,none⟩ (.int .u8 s.h)).setCell ⟨g,i * 8 + 5,none⟩ (.int .i64 s.f)).setCell ⟨g,i * 8 + 6,none⟩ (.bool s.q)).setCell ⟨g,i * 8 + 7,none⟩ (.bool s.a)) base (some ⟨g,0,none⟩) n c (L.set i s)∧w.grownBy ((((((((w.setCell ⟨g,i * 8,none⟩ (.int .i64 s.p)).setCell ⟨g,i * 8 + 1,none⟩ (.int .u32 s.b)).setCell ⟨g,i * 8 + 2,none⟩ (.int .u32 s.e)).setCell ⟨g,i * 8 + 3,none⟩ (.int .i64 s.l)).setCell ⟨g,i * 8 + 4,none⟩ (.int .u8 s.h)).setCell ⟨g,i * 8 + 5,none⟩ (.int .i64 s.f)).setCell ⟨g,i * 8 + 6,none⟩ (.bool s.q)).setCell ⟨g,i * 8 + 7,none⟩ (.bool s.a)) (some g):=by
 obtain ⟨h1,h2,h3⟩:=h
 refine ⟨⟨?_,by rw [List.length_set];exact h2,fun r hr=>?_⟩,?_⟩
 ·have k0:=(h1.stored (i * 8) (.int .i64 s.p)).1
  have k1:=(k0.stored (i * 8 + 1) (.int .u32 s.b)).1
  have k2:=(k1.stored (i * 8 + 2) (.int .u32 s.e)).1
  have k3:=(k2.stored (i * 8 + 3) (.int .i64 s.l)).1
  have k4:=(k3.stored (i * 8 + 4) (.int .u8 s.h)).1
  have k5:=(k4.stored (i * 8 + 5) (.int .i64 s.f)).1
  have k6:=(k5.stored (i * 8 + 6) (.bool s.q)).1
  have k7:=(k6.stored (i * 8 + 7) (.bool s.a)).1
  rw [recsV_set,if_pos (by omega)]
  exact k7
 ·rcases List.mem_or_eq_of_mem_set hr with hr | rfl
  ·exact h3 r hr
  ·exact hs
 ·exact grownBy_trans (grownBy_trans (grownBy_trans (grownBy_trans (grownBy_trans (grownBy_trans (grownBy_trans (grownBy_set w g _ _) (grownBy_set _ g _ _)) (grownBy_set _ g _ _)) (grownBy_set _ g _ _)) (grownBy_set _ g _ _)) (grownBy_set _ g _ _)) (grownBy_set _ g _ _)) (grownBy_set _ g _ _)
theorem pins_any (g n c base:Nat) (L:List Rc) (w:World) (hown:OwnRecs w base (some ⟨g,0,none⟩) n c L) (h1:1≤n) (hn:n≤12) :
  Calls Tryz.prog 192 #[.slice (some ⟨g,0,none⟩) n c,.int .i64 0,.int .i64 (n:Int),(.func (.func 152) #[] #[])] w fun e w'=>e=.returned (.tuple #[])∧OwnRecs w' base (some ⟨g,0,none⟩) n c (isoR L n)∧w.grownBy w' (some g):=by
 have HO:=Lh hown
 have CL:=Lh (fun r s wx=>pclos_any r s wx)
 clear hown
 go_enter Tryz.func192,Tryz.ntmps192
 go_wp2
 go_loopw [8] (fun i wr=>∃ k:Nat,1≤k∧k≤n∧i=.int .i64 k∧OwnRecs wr base (some ⟨g,0,none⟩) n c (isoR L k)∧w.grownBy wr (some g)) (fun i _=>n - (intOf i).toNat)
 case atStart=>exact ⟨1,Nat.le_refl _,h1,rfl,HO.out,grownBy_refl _ _⟩
 case round =>
  obtain ⟨k,hk1,hkn,rfl,hown,hg⟩:=hrel
  have OW:=Lh hown
  have GW:=Lh hg
  clear hown hg
  by_cases hk:k < n
  ·have hki:(k:Int) < (n:Int):=by omega
   have ISO:=Lh (show insR k (isoR L k)=isoR L (k + 1) from rfl)
   go_wp2
   go_loopw [9] (fun jv wr2=>∃ (j:Nat) (M:List Rc),j≤k∧jv=.int .i64 j∧OwnRecs wr2 base (some ⟨g,0,none⟩) n c M∧insR j M=isoR L (k + 1)∧w.grownBy wr2 (some g)) (fun jv _=>(intOf jv).toNat)
   case atStart=>exact ⟨k,isoR L k,Nat.le_refl _,rfl,OW.out,ISO.out,GW.out⟩
   case round =>
    clear OW GW ISO
    obtain ⟨j,M,hjk,rfl,hown,hins,hg⟩:=hrel
    have OW:=Lh hown
    have GW:=Lh hg
    have HI:=Lh hins
    clear hown hg hins
    match j,hjk with
    | 0,_ =>
     clear CL
     go_wp2
     go_quiet (fail)
     go_wp2
     go_roundw
     case rel =>
      have hi:=HI.out
      have ow:=OW.out
      rw [show insR 0 M=M from rfl] at hi
      rw [hi] at ow
      have hbq:Below wr.heap.size wr (wr.drewN nq):=below_drewN (Below.refl _ _) nq
      exact ⟨k + 1,by omega,by omega,by go_num,ow.below hbq,grownBy_trans GW.out (below_grown11 hbq _)⟩
     case measure=>simp [intOf];omega
    | K + 1,hjk =>
     have HO2:=own_rec OW.out (i:=K + 1) (by omega)
     have HO3:=own_rec OW.out (i:=K) (by omega)
     obtain ⟨hr1,c0,c1,c2,c3,c4,c5,c6,c7⟩:=HO2
     obtain ⟨hr2,d0,d1,d2,d3,d4,d5,d6,d7⟩:=HO3
     have hlm:M.length=n:=OW.out.2.1
     have hst:insR (K + 1) M=if (M.getD (K + 1) zR).p < (M.getD K zR).p then insR K (swpR M K) else M:=rfl
     rw [HI.out] at hst
     obtain ⟨r,hr⟩:∃ r,r=M.getD (K + 1) zR:=⟨_,rfl⟩
     obtain ⟨s,hs⟩:∃ r,r=M.getD K zR:=⟨_,rfl⟩
     rw [← hr] at hst hr1 c0 c1 c2 c3 c4 c5 c6 c7
     rw [← hs] at hst hr2 d0 d1 d2 d3 d4 d5 d6 d7
     have HR:=Lh (show swpR M K=(M.set (K + 1) s).set K r by unfold swpR;rw [← hr,← hs])
     have CLR:=Lh (CL.out r s)
     have hneg:=cmpI_neg r.p s.p
     obtain ⟨C,hC⟩:∃ C,C=cmpI r.p s.p:=⟨_,rfl⟩
     rw [← hC] at CLR hneg
     obtain ⟨J,hJ⟩:∃ J,J=K + 1:=⟨_,rfl⟩
     have hrJ:r=M.getD J zR:=by rw [hJ];exact hr
     have hs0:=hs
     rw [← hJ] at c0 c1 c2 c3 c4 c5 c6 c7 HR ⊢
     have hJn:(J:Int) < (n:Int):=by omega
     have hJ0:decide (0 < J)=true:=decide_eq_true (by omega)
     have hKn:(K:Int) < (n:Int):=by omega
     have hJK:IntKind.i64.wrap ((J:Int) - 1)=(K:Int):=by rw [hJ,show (((K + 1:Nat):Int) - 1)=(K:Int) by omega];rw [IntKind.wrap_i64];omega
     have HJ:=Lh hJ
     have HST:=Lh hst
     have HLM:=Lh hlm
     have HR1:=Lh hr1
     have HR2:=Lh hr2
     clear hJ hr hs hC hst hlm hr1 hr2 HI CL c0 c1 c2 c3 c4 c5 c6 c7 d0 d1 d2 d3 d4 d5 d6 d7
     have GET:=Lh (show r=M.getD J zR∧s=M.getD K zR from ⟨hrJ,hs0⟩)
     clear hrJ hs0
     have keepX:∀ wx,Below wr.heap.size wr wx→wx.cell? ⟨g,J * 8,none⟩=some (.int .i64 r.p)∧wx.cell? ⟨g,J * 8 + 1,none⟩=some (.int .u32 r.b)∧wx.cell? ⟨g,J * 8 + 2,none⟩=some (.int .u32 r.e)∧wx.cell? ⟨g,J * 8 + 3,none⟩=some (.int .i64 r.l)∧wx.cell? ⟨g,J * 8 + 4,none⟩=some (.int .u8 r.h)∧wx.cell? ⟨g,J * 8 + 5,none⟩=some (.int .i64 r.f)∧wx.cell? ⟨g,J * 8 + 6,none⟩=some (.bool r.q)∧wx.cell? ⟨g,J * 8 + 7,none⟩=some (.bool r.a)∧wx.cell? ⟨g,K * 8,none⟩=some (.int .i64 s.p)∧wx.cell? ⟨g,K * 8 + 1,none⟩=some (.int .u32 s.b)∧wx.cell? ⟨g,K * 8 + 2,none⟩=some (.int .u32 s.e)∧wx.cell? ⟨g,K * 8 + 3,none⟩=some (.int .i64 s.l)∧wx.cell? ⟨g,K * 8 + 4,none⟩=some (.int .u8 s.h)∧wx.cell? ⟨g,K * 8 + 5,none⟩=some (.int .i64 s.f)∧wx.cell? ⟨g,K * 8 + 6,none⟩=some (.bool s.q)∧wx.cell? ⟨g,K * 8 + 7,none⟩=some (.bool s.a):=fun wx hx=>by
      have h1:=(own_rec (OW.out.below hx) (i:=J) (by omega)).2
      have h2:=(own_rec (OW.out.below hx) (i:=K) (by omega)).2
      rw [← GET.out.1] at h1
      rw [← GET.out.2] at h2
      exact ⟨h1.1,h1.2.1,h1.2.2.1,h1.2.2.2.1,h1.2.2.2.2.1,h1.2.2.2.2.2.1,h1.2.2.2.2.2.2.1,h1.2.2.2.2.2.2.2,h2⟩
     go_upto_region 4 with fail
     have hcur:Below wr.heap.size wr wr.drew:=below_drewN (Below.refl _ _) 1
     have hkX:=keepX _ hcur
     by_cases hlt:r.p < s.p
     ·have hc:C < 0:=by rw [decide_eq_true hlt] at hneg;exact of_decide_eq_true hneg
      have HLT:=Lh hlt
      clear hneg hlt
      go_region_held3 (fun wx=>wx.cell? ⟨g,J * 8,none⟩=some (.int .i64 r.p)∧wx.cell? ⟨g,J * 8 + 1,none⟩=some (.int .u32 r.b)∧wx.cell? ⟨g,J * 8 + 2,none⟩=some (.int .u32 r.e)∧wx.cell? ⟨g,J * 8 + 3,none⟩=some (.int .i64 r.l)∧wx.cell? ⟨g,J * 8 + 4,none⟩=some (.int .u8 r.h)∧wx.cell? ⟨g,J * 8 + 5,none⟩=some (.int .i64 r.f)∧wx.cell? ⟨g,J * 8 + 6,none⟩=some (.bool r.q)∧wx.cell? ⟨g,J * 8 + 7,none⟩=some (.bool r.a)∧wx.cell? ⟨g,K * 8,none⟩=some (.int .i64 s.p)∧wx.cell? ⟨g,K * 8 + 1,none⟩=some (.int .u32 s.b)∧wx.cell? ⟨g,K * 8 + 2,none⟩=some (.int .u32 s.e)∧wx.cell? ⟨g,K * 8 + 3,none⟩=some (.int .i64 s.l)∧wx.cell? ⟨g,K * 8 + 4,none⟩=some (.int .u8 s.h)∧wx.cell? ⟨g,K * 8 + 5,none⟩=some (.int .i64 s.f)∧wx.cell? ⟨g,K * 8 + 6,none⟩=some (.bool s.q)∧wx.cell? ⟨g,K * 8 + 7,none⟩=some (.bool s.a))
       (first | exact hkX | go_keep)
       (first | (go_at_call 152;with_reducible refine (CLR.out _).mono ?_;rintro e wM ⟨rfl,hbM⟩;have hcur:=hcur.trans (hbM.mono hcur.size);have hkX:=keepX _ hcur))
      have OM:=Lh (OW.out.below hcur)
      have GM:=Lh (grownBy_trans GW.out (below_grown11 hcur _))
      obtain ⟨w3,hw3⟩:∃ x,x=wM:=⟨_,rfl⟩
      rw [← hw3] at OM GM hkX ⊢
      obtain ⟨c0,c1,c2,c3,c4,c5,c6,c7,d0,d1,d2,d3,d4,d5,d6,d7⟩:=hkX
      have hf:∀ i,w3.frozen? ⟨g,i,none⟩=false:=fun i=>by have:=(OM.out.1).frozenAt i;simpa using this
      have f0:=hf (J * 8)
      have f1:=hf (J * 8 + 1)
      have f2:=hf (J * 8 + 2)
      have f3:=hf (J * 8 + 3)
      have f4:=hf (J * 8 + 4)
      have f5:=hf (J * 8 + 5)
      have f6:=hf (J * 8 + 6)
      have f7:=hf (J * 8 + 7)
      have e0:=hf (K * 8)
      have e1:=hf (K * 8 + 1)
      have e2:=hf (K * 8 + 2)
      have e3:=hf (K * 8 + 3)
      have e4:=hf (K * 8 + 4)
      have e5:=hf (K * 8 + 5)
      have e6:=hf (K * 8 + 6)
      have e7:=hf (K * 8 + 7)
      clear hcur keepX hw3 hf
      have hne:¬ J=K:=by have:=HJ.out;omega
      have hne2:¬ K=J:=by have:=HJ.out;omega
      go_upto_region 6 with fail
      go_region
      obtain ⟨O1,G1⟩:=OM.out.eight (i:=J) (by omega) HR2.out
      obtain ⟨O2,G2⟩:=O1.eight (i:=K) (by omega) HR1.out
      have G3:=grownBy_trans GM.out (grownBy_trans G1 G2)
      rw [← HR.out] at O2
      obtain ⟨w4,hw4⟩:∃ x,x=((((((((((((((((w3.setCell ⟨g,J * 8,none⟩ (.int .i64 s.p)).setCell ⟨g,J * 8 + 1,none⟩ (.int .u32 s.b)).setCell ⟨g,J * 8 + 2,none⟩ (.int .u32 s.e)).setCell ⟨g,J * 8 + 3,none⟩ (.int .i64 s.l)).setCell ⟨g,J * 8 + 4,none⟩ (.int .u8 s.h)).setCell ⟨g,J * 8 + 5,none⟩ (.int .i64 s.f)).setCell ⟨g,J * 8 + 6,none⟩ (.bool s.q)).setCell ⟨g,J * 8 + 7,none⟩ (.bool s.a)).setCell ⟨g,K * 8,none⟩ (.int .i64 r.p)).setCell ⟨g,K * 8 + 1,none⟩ (.int .u32 r.b)).setCell ⟨g,K * 8 + 2,none⟩ (.int .u32 r.e)).setCell ⟨g,K * 8 + 3,none⟩ (.int .i64 r.l)).setCell ⟨g,K * 8 + 4,none⟩ (.int .u8 r.h)).setCell ⟨g,K * 8 + 5,none⟩ (.int .i64 r.f)).setCell ⟨g,K * 8 + 6,none⟩ (.bool r.q)).setCell ⟨g,K * 8 + 7,none⟩ (.bool r.a)):=⟨_,rfl⟩
      rw [← hw4] at O2 G3 ⊢
      have O4:=Lh (show OwnRecs w4.drew base (some ⟨g,0,none⟩) n c (swpR M K) from O2.below (below_drewN (Below.refl _ _) 1))
      have G4:=Lh (grownBy_drew G3)
      obtain ⟨w5,hw5⟩:∃ x,x=w4.drew:=⟨_,rfl⟩
      rw [← hw5] at O4 G4 ⊢
      clear hw4 hw5 O1 O2 G1 G2 G3 c0 c1 c2 c3 c4 c5 c6 c7 d0 d1 d2 d3 d4 d5 d6 d7 f0 f1 f2 f3 f4 f5 f6 f7 e0 e1 e2 e3 e4 e5 e6 e7 OM GM
      go_wp2
      go_roundw
      case rel =>
       have hi:=HST.out
       rw [if_pos HLT.out] at hi
       exact ⟨K,swpR M K,by omega,by go_num,O4.out,hi.symm,G4.out⟩
      case measure=>simp [intOf];have:=HJ.out;omega
     ·have hc:¬ C < 0:=by rw [decide_eq_false hlt] at hneg;exact of_decide_eq_false hneg
      have HLT:=Lh hlt
      clear hneg hlt
      go_region_held3 (fun wx=>wx.cell? ⟨g,J * 8,none⟩=some (.int .i64 r.p)∧wx.cell? ⟨g,J * 8 + 1,none⟩=some (.int .u32 r.b)∧wx.cell? ⟨g,J * 8 + 2,none⟩=some (.int .u32 r.e)∧wx.cell? ⟨g,J * 8 + 3,none⟩=some (.int .i64 r.l)∧wx.cell? ⟨g,J * 8 + 4,none⟩=some (.int .u8 r.h)∧wx.cell? ⟨g,J * 8 + 5,none⟩=some (.int .i64 r.f)∧wx.cell? ⟨g,J * 8 + 6,none⟩=some (.bool r.q)∧wx.cell? ⟨g,J * 8 + 7,none⟩=some (.bool r.a)∧wx.cell? ⟨g,K * 8,none⟩=some (.int .i64 s.p)∧wx.cell? ⟨g,K * 8 + 1,none⟩=some (.int .u32 s.b)∧wx.cell? ⟨g,K * 8 + 2,none⟩=some (.int .u32 s.e)∧wx.cell? ⟨g,K * 8 + 3,none⟩=some (.int .i64 s.l)∧wx.cell? ⟨g,K * 8 + 4,none⟩=some (.int .u8 s.h)∧wx.cell? ⟨g,K * 8 + 5,none⟩=some (.int .i64 s.f)∧wx.cell? ⟨g,K * 8 + 6,none⟩=some (.bool s.q)∧wx.cell? ⟨g,K * 8 + 7,none⟩=some (.bool s.a))
       (first | exact hkX | go_keep)
       (first | (go_at_call 152;with_reducible refine (CLR.out _).mono ?_;rintro e wM ⟨rfl,hbM⟩;have hcur:=hcur.trans (hbM.mono hcur.size);have hkX:=keepX _ hcur))
      all_goals (
       have OM:=Lh (OW.out.below hcur)
       have GM:=Lh (grownBy_trans GW.out (below_grown11 hcur _))
       clear hcur hkX keepX
       go_wp2
       go_roundw
       case rel =>
        have hi:=HST.out
        rw [if_neg (show ¬ r.p < s.p by have:=HLT.out;omega)] at hi
        have om:=OM.out
        rw [← hi] at om
        exact ⟨k + 1,by omega,by omega,by go_num,om,GM.out⟩
       case measure=>simp [intOf];omega)
  ·obtain rfl:k=n:=by omega
   go_wp2
   first | go_end0 | refine bodyPost_ret (results_none rfl _ _ _) rfl ?_
   exact ⟨rfl,OW.out,GW.out⟩
end Go.Proofs.YtifgcfepbenpjaaGreat
