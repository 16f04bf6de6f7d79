/- Texts of layers 1 to 12, joined. -/
import Derived.Test.YtifgcfepbenpjaaGreatNb35
import Derived.Deep.QuietTactic
import Derived.Deep.RegionHeld3
import Derived.Deep.Cut
set_option maxRecDepth 100000
set_option maxHeartbeats 12800000
set_option linter.unusedVariables false
namespace Go.Proofs.YtifgcfepbenpjaaGreat
open Go.RowKit
theorem plen_any (n:Nat) (hn:n≤3) (w:World):Calls Tryz.prog 177 #[.int .u64 (n:Int)] w fun e w'=>(∃ k,e=.returned (.int .i64 k))∧w'=w:=by
 have H:Calls Tryz.prog 201 #[.int .u64 (n:Int)] w fun e w'=>(∃ k,e=.returned (.int .i64 k))∧w'=w:=by
  match n,hn with
  | 0,_=>exact plen64_0 w
  | 1,_=>exact plen64_1 w
  | 2,_=>exact plen64_2 w
  | 3,_=>exact plen64_3 w
 have H:=Lh H
 obtain ⟨v,hv⟩:∃ v,v=(n:Int):=⟨_,rfl⟩
 rw [← hv] at H ⊢
 clear hv hn
 go_enter Tryz.func177,Tryz.ntmps177
 go_wp2_with fail
 refine H.out.mono ?_
 rintro e w1 ⟨⟨k,rfl⟩,rfl⟩
 go_wp2
 go_ret
 exact ⟨⟨_,rfl⟩,rfl⟩
theorem own_rec {w:World} {base g n c:Nat} {L:List Rc} (h:OwnRecs w base (some ⟨g,0,none⟩) n c L) {i:Nat} (hi:i < n):isR (L.getD i zR)∧(w.cell? ⟨g,i * 8,none⟩=some (.int .i64 (L.getD i zR).p)∧w.cell? ⟨g,i * 8 + 1,none⟩=some (.int .u32 (L.getD i zR).b)∧w.cell? ⟨g,i * 8 + 2,none⟩=some (.int .u32 (L.getD i zR).e) ∧
  w.cell? ⟨g,i * 8 + 3,none⟩=some (.int .i64 (L.getD i zR).l)∧w.cell? ⟨g,i * 8 + 4,none⟩=some (.int .u8 (L.getD i zR).h)∧w.cell? ⟨g,i * 8 + 5,none⟩=some (.int .i64 (L.getD i zR).f)∧w.cell? ⟨g,i * 8 + 6,none⟩=some (.bool (L.getD i zR).q)∧w.cell? ⟨g,i * 8 + 7,none⟩=some (.bool (L.getD i zR).a)):=by
 have hR:=Recs.of_own h
 obtain ⟨b,o,e,_,hc⟩:=hR.row hi
 injection e with e;injection e with e1 e2 _;subst e1;subst e2
 simp only [Nat.zero_add] at hc
 exact ⟨hR.is_at hi,hc⟩
theorem recsV_set (L:List Rc) (i:Nat) (s:Rc):recsV (L.set i s)=if i < L.length then (((((((((recsV L).set (i * 8) (.int .i64 s.p)).set (i * 8 + 1) (.int .u32 s.b)).set (i * 8 + 2) (.int .u32 s.e)).set (i * 8 + 3) (.int .i64 s.l)).set (i * 8 + 4) (.int .u8 s.h)).set (i * 8 + 5) (.int .i64 s.f)).set (i * 8 + 6) (.bool s.q)).set (i * 8 + 7) (.bool s.a)) else recsV L:=by
 induction L generalizing i with
 | nil=>simp [recsV]
 | cons r L ih =>
  cases i with
  | zero=>rw [if_pos (by simp)];rfl
  | succ i =>
   have e:recsV (r :: L)=.int .i64 r.p :: .int .u32 r.b :: .int .u32 r.e :: .int .i64 r.l :: .int .u8 r.h :: .int .i64 r.f :: .bool r.q :: .bool r.a :: recsV L:=rfl
   have e2:recsV (r :: L.set i s)=.int .i64 r.p :: .int .u32 r.b :: .int .u32 r.e :: .int .i64 r.l :: .int .u8 r.h :: .int .i64 r.f :: .bool r.q :: .bool r.a :: recsV (L.set i s):=rfl
   rw [scS,e2,e,ih]
   have e3:∀ k,(i + 1) * 8 + k=i * 8 + k + 1 + 1 + 1 + 1 + 1 + 1 + 1 + 1:=fun k=>by omega
   have e4:(i + 1) * 8=i * 8 + 1 + 1 + 1 + 1 + 1 + 1 + 1 + 1:=by omega
   by_cases h:i < L.length
   ·rw [if_pos h,if_pos (by simpa using h),e3,e3,e3,e3,e3,e3,e3,e4]
    simp only [scS]
   ·rw [if_neg h,if_neg (by simpa using h)]
theorem OwnRecs.eight {w:World} {base g n c:Nat} {L:List Rc} (h:OwnRecs w base (some ⟨g,0,none⟩) n c L) {i:Nat} (hi:i < n) {s:Rc} (hs:isR s) :
  OwnRecs ((((((((w.setCell ⟨g,i * 8,none⟩ (.int .i64 s.p)).setCell ⟨g,i * 8 + 1,none⟩ (.int .u32 s.b)).setCell ⟨g,i * 8 + 2,none⟩ (.int .u32 s.e)).setCell ⟨g,i * 8 + 3,none⟩ (.int .i64 s.l)).setCell ⟨g,i * 8 + 4,none⟩ (.int .u8 s.h)).setCell ⟨g,i * 8 + 5,none⟩ (.int .i64 s.f)).setCell ⟨g,i * 8 + 6,none⟩ (.bool s.q)).setCell ⟨g,i * 8 + 7,none⟩ (.bool s.a)) base (some ⟨g,0,none⟩) n c (L.set i s)∧w.grownBy ((((((((w.setCell ⟨g,i * 8,none⟩ (.int .i64 s.p)).setCell ⟨g,i * 8 + 1,none⟩ (.int .u32 s.b)).setCell ⟨g,i * 8 + 2,none⟩ (.int .u32 s.e)).setCell ⟨g,i * 8 + 3,none⟩ (.int .i64 s.l)).setCell ⟨g,i * 8 + 4,none⟩ (.int .u8 s.h)).setCell ⟨g,i * 8 + 5,none⟩ (.int .i64 s.f)).setCell ⟨g,i * 8 + 6,none⟩ (.bool s.q)).setCell ⟨g,i * 8 + 7,none⟩ (.bool s.a)) (some g):=by
 obtain ⟨h1,h2,h3⟩:=h
 refine ⟨⟨?_,by rw [List.length_set];exact h2,fun r hr=>?_⟩,?_⟩
 ·have k0:=(h1.stored (i * 8) (.int .i64 s.p)).1
  have k1:=(k0.stored (i * 8 + 1) (.int .u32 s.b)).1
  have k2:=(k1.stored (i * 8 + 2) (.int .u32 s.e)).1
  have k3:=(k2.stored (i * 8 + 3) (.int .i64 s.l)).1
  have k4:=(k3.stored (i * 8 + 4) (.int .u8 s.h)).1
  have k5:=(k4.stored (i * 8 + 5) (.int .i64 s.f)).1
  have k6:=(k5.stored (i * 8 + 6) (.bool s.q)).1
  have k7:=(k6.stored (i * 8 + 7) (.bool s.a)).1
  rw [recsV_set,if_pos (by omega)]
  exact k7
 ·rcases List.mem_or_eq_of_mem_set hr with hr | rfl
  ·exact h3 r hr
  ·exact hs
 ·exact grownBy_trans (grownBy_trans (grownBy_trans (grownBy_trans (grownBy_trans (grownBy_trans (grownBy_trans (grownBy_set w g _ _) (grownBy_set _ g _ _)) (grownBy_set _ g _ _)) (grownBy_set _ g _ _)) (grownBy_set _ g _ _)) (grownBy_set _ g _ _)) (grownBy_set _ g _ _)) (grownBy_set _ g _ _)
theorem pins_any (g n c base:Nat) (L:List Rc) (w:World) (hown:OwnRecs w base (some ⟨g,0,none⟩) n c L) (h1:1≤n) (hn:n≤12) :
  Calls Tryz.prog 192 #[.slice (some ⟨g,0,none⟩) n c,.int .i64 0,.int .i64 (n:Int),(.func (.func 152) #[] #[])] w fun e w'=>e=.returned (.tuple #[])∧OwnRecs w' base (some ⟨g,0,none⟩) n c (isoR L n)∧w.grownBy w' (some g):=by
 have HO:=Lh hown
 have CL:=Lh (fun r s wx=>pclos_any r s wx)
 clear hown
 go_enter Tryz.func192,Tryz.ntmps192
 go_wp2
 go_loopw [8] (fun i wr=>∃ k:Nat,1≤k∧k≤n∧i=.int .i64 k∧OwnRecs wr base (some ⟨g,0,none⟩) n c (isoR L k)∧w.grownBy wr (some g)) (fun i _=>n - (intOf i).toNat)
 case atStart=>exact ⟨1,Nat.le_refl _,h1,rfl,HO.out,grownBy_refl _ _⟩
 case round =>
  obtain ⟨k,hk1,hkn,rfl,hown,hg⟩:=hrel
  have OW:=Lh hown
  have GW:=Lh hg
  clear hown hg
  by_cases hk:k < n
  ·have hki:(k:Int) < (n:Int):=by omega
   have ISO:=Lh (show insR k (isoR L k)=isoR L (k + 1) from rfl)
   go_wp2
   go_loopw [9] (fun jv wr2=>∃ (j:Nat) (M:List Rc),j≤k∧jv=.int .i64 j∧OwnRecs wr2 base (some ⟨g,0,none⟩) n c M∧insR j M=isoR L (k + 1)∧w.grownBy wr2 (some g)) (fun jv _=>(intOf jv).toNat)
   case atStart=>exact ⟨k,isoR L k,Nat.le_refl _,rfl,OW.out,ISO.out,GW.out⟩
   case round =>
    clear OW GW ISO
    obtain ⟨j,M,hjk,rfl,hown,hins,hg⟩:=hrel
    have OW:=Lh hown
    have GW:=Lh hg
    have HI:=Lh hins
    clear hown hg hins
    match j,hjk with
    | 0,_ =>
     clear CL
     go_wp2
     go_quiet (fail)
     go_wp2
     go_roundw
     case rel =>
      have hi:=HI.out
      have ow:=OW.out
      rw [show insR 0 M=M from rfl] at hi
      rw [hi] at ow
      have hbq:Below wr.heap.size wr (wr.drewN nq):=below_drewN (Below.refl _ _) nq
      exact ⟨k + 1,by omega,by omega,by go_num,ow.below hbq,grownBy_trans GW.out (below_grown11 hbq _)⟩
     case measure=>simp [intOf];omega
    | K + 1,hjk =>
     have HO2:=own_rec OW.out (i:=K + 1) (by omega)
     have HO3:=own_rec OW.out (i:=K) (by omega)
     obtain ⟨hr1,c0,c1,c2,c3,c4,c5,c6,c7⟩:=HO2
     obtain ⟨hr2,d0,d1,d2,d3,d4,d5,d6,d7⟩:=HO3
     have hlm:M.length=n:=OW.out.2.1
     have hst:insR (K + 1) M=if (M.getD (K + 1) zR).p < (M.getD K zR).p then insR K (swpR M K) else M:=rfl
     rw [HI.out] at hst
     obtain ⟨r,hr⟩:∃ r,r=M.getD (K + 1) zR:=⟨_,rfl⟩
     obtain ⟨s,hs⟩:∃ r,r=M.getD K zR:=⟨_,rfl⟩
     rw [← hr] at hst hr1 c0 c1 c2 c3 c4 c5 c6 c7
     rw [← hs] at hst hr2 d0 d1 d2 d3 d4 d5 d6 d7
     have HR:=Lh (show swpR M K=(M.set (K + 1) s).set K r by unfold swpR;rw [← hr,← hs])
     have CLR:=Lh (CL.out r s)
     have hneg:=cmpI_neg r.p s.p
     obtain ⟨C,hC⟩:∃ C,C=cmpI r.p s.p:=⟨_,rfl⟩
     rw [← hC] at CLR hneg
     obtain ⟨J,hJ⟩:∃ J,J=K + 1:=⟨_,rfl⟩
     have hrJ:r=M.getD J zR:=by rw [hJ];exact hr
     have hs0:=hs
     rw [← hJ] at c0 c1 c2 c3 c4 c5 c6 c7 HR ⊢
     have hJn:(J:Int) < (n:Int):=by omega
     have hJ0:decide (0 < J)=true:=decide_eq_true (by omega)
     have hKn:(K:Int) < (n:Int):=by omega
     have hJK:IntKind.i64.wrap ((J:Int) - 1)=(K:Int):=by rw [hJ,show (((K + 1:Nat):Int) - 1)=(K:Int) by omega];rw [IntKind.wrap_i64];omega
     have HJ:=Lh hJ
     have HST:=Lh hst
     have HLM:=Lh hlm
     have HR1:=Lh hr1
     have HR2:=Lh hr2
     clear hJ hr hs hC hst hlm hr1 hr2 HI CL c0 c1 c2 c3 c4 c5 c6 c7 d0 d1 d2 d3 d4 d5 d6 d7
     have GET:=Lh (show r=M.getD J zR∧s=M.getD K zR from ⟨hrJ,hs0⟩)
     clear hrJ hs0
     have keepX:∀ wx,Below wr.heap.size wr wx→wx.cell? ⟨g,J * 8,none⟩=some (.int .i64 r.p)∧wx.cell? ⟨g,J * 8 + 1,none⟩=some (.int .u32 r.b)∧wx.cell? ⟨g,J * 8 + 2,none⟩=some (.int .u32 r.e)∧wx.cell? ⟨g,J * 8 + 3,none⟩=some (.int .i64 r.l)∧wx.cell? ⟨g,J * 8 + 4,none⟩=some (.int .u8 r.h)∧wx.cell? ⟨g,J * 8 + 5,none⟩=some (.int .i64 r.f)∧wx.cell? ⟨g,J * 8 + 6,none⟩=some (.bool r.q)∧wx.cell? ⟨g,J * 8 + 7,none⟩=some (.bool r.a)∧wx.cell? ⟨g,K * 8,none⟩=some (.int .i64 s.p)∧wx.cell? ⟨g,K * 8 + 1,none⟩=some (.int .u32 s.b)∧wx.cell? ⟨g,K * 8 + 2,none⟩=some (.int .u32 s.e)∧wx.cell? ⟨g,K * 8 + 3,none⟩=some (.int .i64 s.l)∧wx.cell? ⟨g,K * 8 + 4,none⟩=some (.int .u8 s.h)∧wx.cell? ⟨g,K * 8 + 5,none⟩=some (.int .i64 s.f)∧wx.cell? ⟨g,K * 8 + 6,none⟩=some (.bool s.q)∧wx.cell? ⟨g,K * 8 + 7,none⟩=some (.bool s.a):=fun wx hx=>by
      have h1:=(own_rec (OW.out.below hx) (i:=J) (by omega)).2
      have h2:=(own_rec (OW.out.below hx) (i:=K) (by omega)).2
      rw [← GET.out.1] at h1
      rw [← GET.out.2] at h2
      exact ⟨h1.1,h1.2.1,h1.2.2.1,h1.2.2.2.1,h1.2.2.2.2.1,h1.2.2.2.2.2.1,h1.2.2.2.2.2.2.1,h1.2.2.2.2.2.2.2,h2⟩
     go_upto_region 4 with fail
     have hcur:Below wr.heap.size wr wr.drew:=below_drewN (Below.refl _ _) 1
     have hkX:=keepX _ hcur
     by_cases hlt:r.p < s.p
     ·have hc:C < 0:=by rw [decide_eq_true hlt] at hneg;exact of_decide_eq_true hneg
      have HLT:=Lh hlt
      clear hneg hlt
      go_region_held3 (fun wx=>wx.cell? ⟨g,J * 8,none⟩=some (.int .i64 r.p)∧wx.cell? ⟨g,J * 8 + 1,none⟩=some (.int .u32 r.b)∧wx.cell? ⟨g,J * 8 + 2,none⟩=some (.int .u32 r.e)∧wx.cell? ⟨g,J * 8 + 3,none⟩=some (.int .i64 r.l)∧wx.cell? ⟨g,J * 8 + 4,none⟩=some (.int .u8 r.h)∧wx.cell? ⟨g,J * 8 + 5,none⟩=some (.int .i64 r.f)∧wx.cell? ⟨g,J * 8 + 6,none⟩=some (.bool r.q)∧wx.cell? ⟨g,J * 8 + 7,none⟩=some (.bool r.a)∧wx.cell? ⟨g,K * 8,none⟩=some (.int .i64 s.p)∧wx.cell? ⟨g,K * 8 + 1,none⟩=some (.int .u32 s.b)∧wx.cell? ⟨g,K * 8 + 2,none⟩=some (.int .u32 s.e)∧wx.cell? ⟨g,K * 8 + 3,none⟩=some (.int .i64 s.l)∧wx.cell? ⟨g,K * 8 + 4,none⟩=some (.int .u8 s.h)∧wx.cell? ⟨g,K * 8 + 5,none⟩=some (.int .i64 s.f)∧wx.cell? ⟨g,K * 8 + 6,none⟩=some (.bool s.q)∧wx.cell? ⟨g,K * 8 + 7,none⟩=some (.bool s.a))
       (first | exact hkX | go_keep)
       (first | (go_at_call 152;with_reducible refine (CLR.out _).mono ?_;rintro e wM ⟨rfl,hbM⟩;have hcur:=hcur.trans (hbM.mono hcur.size);have hkX:=keepX _ hcur))
      have OM:=Lh (OW.out.below hcur)
      have GM:=Lh (grownBy_trans GW.out (below_grown11 hcur _))
      obtain ⟨w3,hw3⟩:∃ x,x=wM:=⟨_,rfl⟩
      rw [← hw3] at OM GM hkX ⊢
      obtain ⟨c0,c1,c2,c3,c4,c5,c6,c7,d0,d1,d2,d3,d4,d5,d6,d7⟩:=hkX
      have hf:∀ i,w3.frozen? ⟨g,i,none⟩=false:=fun i=>by have:=(OM.out.1).frozenAt i;simpa using this
      have f0:=hf (J * 8)
      have f1:=hf (J * 8 + 1)
      have f2:=hf (J * 8 + 2)
      have f3:=hf (J * 8 + 3)
      have f4:=hf (J * 8 + 4)
      have f5:=hf (J * 8 + 5)
      have f6:=hf (J * 8 + 6)
      have f7:=hf (J * 8 + 7)
      have e0:=hf (K * 8)
      have e1:=hf (K * 8 + 1)
      have e2:=hf (K * 8 + 2)
      have e3:=hf (K * 8 + 3)
      have e4:=hf (K * 8 + 4)
      have e5:=hf (K * 8 + 5)
      have e6:=hf (K * 8 + 6)
      have e7:=hf (K * 8 + 7)
      clear hcur keepX hw3 hf
      have hne:¬ J=K:=by have:=HJ.out;omega
      have hne2:¬ K=J:=by have:=HJ.out;omega
      go_upto_region 6 with fail
      go_region
      obtain ⟨O1,G1⟩:=OM.out.eight (i:=J) (by omega) HR2.out
      obtain ⟨O2,G2⟩:=O1.eight (i:=K) (by omega) HR1.out
      have G3:=grownBy_trans GM.out (grownBy_trans G1 G2)
      rw [← HR.out] at O2
      obtain ⟨w4,hw4⟩:∃ x,x=((((((((((((((((w3.setCell ⟨g,J * 8,none⟩ (.int .i64 s.p)).setCell ⟨g,J * 8 + 1,none⟩ (.int .u32 s.b)).setCell ⟨g,J * 8 + 2,none⟩ (.int .u32 s.e)).setCell ⟨g,J * 8 + 3,none⟩ (.int .i64 s.l)).setCell ⟨g,J * 8 + 4,none⟩ (.int .u8 s.h)).setCell ⟨g,J * 8 + 5,none⟩ (.int .i64 s.f)).setCell ⟨g,J * 8 + 6,none⟩ (.bool s.q)).setCell ⟨g,J * 8 + 7,none⟩ (.bool s.a)).setCell ⟨g,K * 8,none⟩ (.int .i64 r.p)).setCell ⟨g,K * 8 + 1,none⟩ (.int .u32 r.b)).setCell ⟨g,K * 8 + 2,none⟩ (.int .u32 r.e)).setCell ⟨g,K * 8 + 3,none⟩ (.int .i64 r.l)).setCell ⟨g,K * 8 + 4,none⟩ (.int .u8 r.h)).setCell ⟨g,K * 8 + 5,none⟩ (.int .i64 r.f)).setCell ⟨g,K * 8 + 6,none⟩ (.bool r.q)).setCell ⟨g,K * 8 + 7,none⟩ (.bool r.a)):=⟨_,rfl⟩
      rw [← hw4] at O2 G3 ⊢
      have O4:=Lh (show OwnRecs w4.drew base (some ⟨g,0,none⟩) n c (swpR M K) from O2.below (below_drewN (Below.refl _ _) 1))
      have G4:=Lh (grownBy_drew G3)
      obtain ⟨w5,hw5⟩:∃ x,x=w4.drew:=⟨_,rfl⟩
      rw [← hw5] at O4 G4 ⊢
      clear hw4 hw5 O1 O2 G1 G2 G3 c0 c1 c2 c3 c4 c5 c6 c7 d0 d1 d2 d3 d4 d5 d6 d7 f0 f1 f2 f3 f4 f5 f6 f7 e0 e1 e2 e3 e4 e5 e6 e7 OM GM
      go_wp2
      go_roundw
      case rel =>
       have hi:=HST.out
       rw [if_pos HLT.out] at hi
       exact ⟨K,swpR M K,by omega,by go_num,O4.out,hi.symm,G4.out⟩
      case measure=>simp [intOf];have:=HJ.out;omega
     ·have hc:¬ C < 0:=by rw [decide_eq_false hlt] at hneg;exact of_decide_eq_false hneg
      have HLT:=Lh hlt
      clear hneg hlt
      go_region_held3 (fun wx=>wx.cell? ⟨g,J * 8,none⟩=some (.int .i64 r.p)∧wx.cell? ⟨g,J * 8 + 1,none⟩=some (.int .u32 r.b)∧wx.cell? ⟨g,J * 8 + 2,none⟩=some (.int .u32 r.e)∧wx.cell? ⟨g,J * 8 + 3,none⟩=some (.int .i64 r.l)∧wx.cell? ⟨g,J * 8 + 4,none⟩=some (.int .u8 r.h)∧wx.cell? ⟨g,J * 8 + 5,none⟩=some (.int .i64 r.f)∧wx.cell? ⟨g,J * 8 + 6,none⟩=some (.bool r.q)∧wx.cell? ⟨g,J * 8 + 7,none⟩=some (.bool r.a)∧wx.cell? ⟨g,K * 8,none⟩=some (.int .i64 s.p)∧wx.cell? ⟨g,K * 8 + 1,none⟩=some (.int .u32 s.b)∧wx.cell? ⟨g,K * 8 + 2,none⟩=some (.int .u32 s.e)∧wx.cell? ⟨g,K * 8 + 3,none⟩=some (.int .i64 s.l)∧wx.cell? ⟨g,K * 8 + 4,none⟩=some (.int .u8 s.h)∧wx.cell? ⟨g,K * 8 + 5,none⟩=some (.int .i64 s.f)∧wx.cell? ⟨g,K * 8 + 6,none⟩=some (.bool s.q)∧wx.cell? ⟨g,K * 8 + 7,none⟩=some (.bool s.a))
       (first | exact hkX | go_keep)
       (first | (go_at_call 152;with_reducible refine (CLR.out _).mono ?_;rintro e wM ⟨rfl,hbM⟩;have hcur:=hcur.trans (hbM.mono hcur.size);have hkX:=keepX _ hcur))
      all_goals (
       have OM:=Lh (OW.out.below hcur)
       have GM:=Lh (grownBy_trans GW.out (below_grown11 hcur _))
       clear hcur hkX keepX
       go_wp2
       go_roundw
       case rel =>
        have hi:=HST.out
        rw [if_neg (show ¬ r.p < s.p by have:=HLT.out;omega)] at hi
        have om:=OM.out
        rw [← hi] at om
        exact ⟨k + 1,by omega,by omega,by go_num,om,GM.out⟩
       case measure=>simp [intOf];omega)
  ·obtain rfl:k=n:=by omega
   go_wp2
   first | go_end0 | refine bodyPost_ret (results_none rfl _ _ _) rfl ?_
   exact ⟨rfl,OW.out,GW.out⟩
end Go.Proofs.YtifgcfepbenpjaaGreat
namespace Go.Proofs.YtifgcfepbenpjaaGreat
open Go.RowKit Go.Maps
def SortOut (w:World) (base:Nat) (A:Option Addr) (n c:Nat) (L:List Rc) (e:Ending) (w':World):Prop:=e=.returned (.tuple #[])∧OwnRecs w' base A n c (isoR L n)∧Below base w w'
theorem pins_all (A:Option Addr) (n c base:Nat) (L:List Rc) (w:World) (hown:OwnRecs w base A n c L) (hb:base≤w.heap.size) (hn:n≤12) :
  Calls Tryz.prog 192 #[.slice A n c,.int .i64 0,.int .i64 (n:Int),(.func (.func 152) #[] #[])] w (SortOut w base A n c L):=by
 unfold SortOut
 rcases Nat.eq_zero_or_pos n with h0 | h1
 ·subst h0
  have HO:=Lh (show OwnRecs w base A 0 c (isoR L 0) from hown)
  clear hown
  rw [show ((0:Nat):Int)=0 from rfl]
  go_enter Tryz.func192,Tryz.ntmps192
  go_wp2
  go_loopw [8] (fun i wr=>i=.int .i64 1∧wr=w) (fun _ _=>0)
  case atStart=>exact ⟨rfl,rfl⟩
  case round =>
   obtain ⟨rfl,rfl⟩:=hrel
   go_wp2
   first | go_end0 | refine bodyPost_ret (results_none rfl _ _ _) rfl ?_
   exact ⟨rfl,HO.out,Below.refl _ _⟩
 ·obtain ⟨g,rfl,hg⟩:∃ g,A=some ⟨g,0,none⟩∧base≤g:=by
   rcases hown.1.2 with ⟨_,h0⟩ | ⟨g,cap,cur,e,hg,_⟩
   ·omega
   ·cases e
    exact ⟨g,rfl,hg⟩
  refine (pins_any g n c base L w hown h1 hn).mono ?_
  rintro e w' ⟨rfl,h2,h3⟩
  exact ⟨rfl,h2,(Below.refl _ _).grown h3 hb (fun k hk=>by injection hk with hk;omega)⟩
theorem ppdq_any (A:Option Addr) (n c base:Nat) (L:List Rc) (lim:Int) (w:World) (hown:OwnRecs w base A n c L) (hb:base≤w.heap.size) (hn:n≤12) :
  Calls Tryz.prog 176 #[.slice A n c,.int .i64 0,.int .i64 (n:Int),.int .i64 lim,(.func (.func 152) #[] #[])] w (SortOut w base A n c L):=by
 have P:=Lh (pins_all A n c base L w hown hb hn)
 unfold SortOut at P ⊢
 have e1:IntKind.i64.wrap (n:Int)=(n:Int):=by rw [IntKind.wrap_i64];omega
 have e2:(n:Int)≤12:=by omega
 clear hown hb hn
 go_enter Tryz.func176,Tryz.ntmps176
 go_wp2
 go_loopw [1,2,3] (fun a b l wr=>a=.int .i64 0∧b=.int .i64 (n:Int)∧l=.int .i64 lim∧wr=w) (fun _ _ _ _=>0)
 case atStart=>exact ⟨rfl,rfl,rfl,rfl⟩
 case round =>
  obtain ⟨rfl,rfl,rfl,rfl⟩:=hrel
  go_wp2_with fail
  refine P.out.mono ?_
  rintro e w' ⟨rfl,h2,h3⟩
  have H2:=Lh h2
  have H3:=Lh h3
  clear h2 h3
  go_wp2
  first | go_end0 | refine bodyPost_ret (results_none rfl _ _ _) rfl ?_
  exact ⟨rfl,H2.out,H3.out⟩
theorem psortf_any (A:Option Addr) (n c base:Nat) (L:List Rc) (w:World) (hown:OwnRecs w base A n c L) (hb:base≤w.heap.size) (hn:n≤3) :
  Calls Tryz.prog 151 #[.slice A n c,(.func (.func 152) #[] #[])] w (SortOut w base A n c L):=by
 have P:=Lh (fun lim=>ppdq_any A n c base L lim w hown hb (by omega))
 have LN:=Lh (plen_any n hn w)
 unfold SortOut at P ⊢
 have e1:IntKind.u64.wrap (n:Int)=(n:Int):=wrapw64 _ (by omega) (by omega)
 clear hown hb hn
 go_enter Tryz.func151,Tryz.ntmps151
 go_wp2_with fail
 refine LN.out.mono ?_
 rintro e w1 ⟨⟨k,rfl⟩,rfl⟩
 go_wp2_with fail
 refine (P.out _).mono ?_
 rintro e w' ⟨rfl,h2,h3⟩
 have H2:=Lh h2
 have H3:=Lh h3
 clear h2 h3
 go_wp2
 first | go_end0 | refine bodyPost_ret (results_none rfl _ _ _) rfl ?_
 exact ⟨rfl,H2.out,H3.out⟩
end Go.Proofs.YtifgcfepbenpjaaGreat
namespace Go.Proofs.YtifgcfepbenpjaaGreat
open Go.RowKit Go.Maps
theorem ranges_below {w w':World} {P:Program} {k:TypeId} {R:Value→Option (DataW Unit × List MemPlace)} {b r n base:Nat} {D:DataW Unit} {left:Lit→Bool} {cnt:Nat} (h:w.ranges P k R b r n D left cnt) (hb:Below base w w') (h1:b < base) (h2:r < base):w'.ranges P k R b r n D left cnt:=by
 obtain ⟨es,clock,since,seen,c0,hb0,F,hs,hD,hr,rest⟩:=h
 exact ⟨es,clock,since,seen,c0,(hb.block b h1).trans hb0,F,hs,hD,(hb.block r h2).trans hr,rest⟩
theorem OwnRecs.under {w w':World} {base:Nat} {A:Option Addr} {n c:Nat} {L:List Rc} (h:OwnRecs w base A n c L) {row:Option Nat} (hg:w.grownBy w' row) (hr:∀ g,row=some g→g < base):OwnRecs w' base A n c L:=⟨owns_under h.1 hg hr,h.2.1,h.2.2⟩
theorem psorted_any (B n:Nat) (t:List Rc) (w:World) (ht:mayTab t) (h:TabAt w B n t) :
  Calls Tryz.prog 111 #[.map (some B)] w fun e w'=>∃ A' c',e=.returned (.slice A' t.length c')∧OwnRecs w' w.heap.size A' t.length c' t∧Below w.heap.size w w':=by
 have hBlt:=h.lt
 obtain ⟨D,hown,hD⟩:=h
 have HD:=Lh hD
 have HM:=Lh ht
 clear hD ht
 go_enter Tryz.func111,Tryz.ntmps111
 go_wp2_with (first
  | (at_range;refine wpList_range_own _ rfl _ 143 rfl 3 64 key11 Tryz.underlying143 recElem B n D rfl hown ?_;intro w0 hrg0 hg0 hs0)
  | go_in)
 go_frame
 go_loopw [3] (fun v wr=>∃ (left:Lit→Bool) (cnt:Nat) (M:List Rc) (A':Option Addr) (c':Nat),wr.ranges Tryz.prog 3 recElem B w.heap.size n D left cnt∧Coll t left M∧v=.slice A' M.length c'∧OwnRecs wr (w.heap.size + 1) A' M.length c' M∧Below w.heap.size w wr∧w.heap.size + 1≤wr.heap.size) (fun _ wr=>wr.rangeLeft B w.heap.size)
 case atStart=>exact ⟨_,_,[],none,0,hrg0,Coll.start (mayTab_ne HM.out) HD.out,rfl,OwnRecs.nil _ _,(Below.refl _ _).grown hg0 (Nat.le_refl _) (fun j hj=>by cases hj),by omega⟩
 case round =>
  clear hown hrg0 hg0 hs0
  obtain ⟨left,cnt,M,A',c',hrg,hC,rfl,hown,hbw,hsz⟩:=hrel
  have hmt:=(mayTab_iff t).1 HM.out
  have hM3:M.length≤3:=three_of hC.2.1 fun r hr=>⟨(hmt.1 r (hC.1 r hr)).1.1,(hmt.1 r (hC.1 r hr)).1.2.1⟩
  have OW:=Lh hown
  have BW:=Lh hbw
  have CC:=Lh hC
  have HSZ:=Lh hsz
  clear hown hbw hC hmt hsz
  obtain ⟨m,hm⟩:∃ m,m=M.length:=⟨_,rfl⟩
  rw [← hm] at OW hM3 ⊢
  have HMM:=Lh hm
  clear hm
  go_wp2_with (first
   | (at_next;refine wpList_next_ranges _ rfl _ rfl 3 key11 recElem (Value.int .i64) recV (fun key kl hk=>by obtain ⟨x,hx,_⟩:=keyOf_int_inv Tryz.underlying3 hk;exact ⟨x,hx⟩) (fun v y hv=>by obtain ⟨r,hr,_⟩:=recElem_inv hv;exact ⟨r,hr⟩) B w.heap.size n D left cnt rfl hrg ?_ ?_)
   | go_in)
  ·intro hc0 hl0
   have SO:=Lh (fun wx (hx:OwnRecs wx (w.heap.size + 1) A' m c' M) (hz:w.heap.size + 1≤wx.heap.size)=>psortf_any A' m c' (w.heap.size + 1) M wx hx hz hM3)
   unfold SortOut at SO
   have IT:=Lh (iso_tab HM.out CC.out.2.1 (CC.out.done hl0))
   clear hrg hl0 hc0
   go_wp2_with fail
   refine (SO.out _ OW.out HSZ.out).mono ?_
   rintro e w2 ⟨rfl,h2,h3⟩
   have H2:=Lh h2
   have B2:=Lh (BW.out.trans (h3.mono (Nat.le_succ _)))
   clear h2 h3
   go_wp2
   go_ret
   have it:=IT.out
   have o2:=H2.out
   rw [← HMM.out] at it
   rw [it] at o2
   have hl:t.length=m:=by rw [← it,isoR_length];exact HMM.out.symm
   rw [hl]
   exact ⟨A',c',rfl,o2.lower (Nat.le_succ _),B2.out⟩
  ·intro x c kl yd yp w2 cnt2 hkey hlk hv hat hrg2 hlt hg2 hs2 hen
   obtain ⟨x',ex,rfl,_⟩:=keyOf_int_inv Tryz.underlying3 hkey
   obtain rfl:x=x':=by injection ex
   obtain ⟨c',ec,hcR,ey⟩:=recElem_inv hv
   have ecc:=recV_inj ec
   subst ecc
   have hy:yd=recD c:=(Prod.mk.inj ey).1
   have hh:=has_true_of_atKey hat
   rw [HD.out.1 x] at hh
   obtain ⟨s,hs⟩:=Option.isSome_iff_exists.1 hh
   have hsc:s=c:=recD_inj (by rw [← HD.out.2 x s hs (recD c),hat,hy])
   subst hsc
   obtain ⟨hmem,hpx⟩:=fR_some hs
   subst hpx
   have HRG:=Lh hrg
   have LT:=Lh hlt
   have HC2:=Lh (CC.out.step (mayTab_ne HM.out) hmem hlk)
   have hsz2:w.heap.size + 1≤w2.heap.size:=by rw [hs2];exact HSZ.out
   have OW2:=OW.out.under hg2 (fun g hg=>by injection hg with hg;omega)
   have BW2:=BW.out.grown hg2 (Nat.le_trans (Nat.le_succ _) HSZ.out) (fun k hk=>by injection hk with hk;omega)
   obtain ⟨xb,hbb⟩:=rec_box w2 s
   have hc0:=xb.rec
   have OW3:=Lh (OW2.below hbb)
   have BW3:=Lh (BW2.trans (hbb.mono BW2.size))
   have HRG3:=Lh (hrg2.alloc (.cells #[.int .i64 s.p,.int .u32 s.b,.int .u32 s.e,.int .i64 s.l,.int .u8 s.h,.int .i64 s.f,.bool s.q,.bool s.a] 64))
   have SZ3:=Lh (Nat.le_trans hsz2 hbb.size)
   have HR:=Lh hcR
   obtain ⟨c0,c1,c2,c3,c4,c5,c6,c7⟩:=hc0
   clear hkey hlk hv hat hrg2 hlt hg2 hs2 ey ec hy hh hs hmem hrg OW2 BW2 hbb xb hsz2 hcR ex OW BW CC
   go_wp2_with (first
    | (at_builtin;refine wpList_recs (w2.alloc (.cells #[.int .i64 s.p,.int .u32 s.b,.int .u32 s.e,.int .i64 s.l,.int .u8 s.h,.int .i64 s.f,.bool s.q,.bool s.a] 64)) (w2.alloc (.cells #[.int .i64 s.p,.int .u32 s.b,.int .u32 s.e,.int .i64 s.l,.int .u8 s.h,.int .i64 s.f,.bool s.q,.bool s.a] 64)) rfl (.tmp 12) (.tmp 14) rfl (w.heap.size + 1) A' m c' M rfl OW3.out s HR.out (by rw [World.size_alloc];rfl) (by omega) (Below.refl _ _) SZ3.out ?_;intro A2 c2' w5 hO5 hB5;have O5:=Lh hO5;have B5:=Lh hB5;clear hO5 hB5)
    | go_in)
   go_roundw
   case rel =>
    have hml:(M ++ [s]).length=m + 1:=by rw [List.length_append,← HMM.out];rfl
    refine ⟨_,cnt2,M ++ [s],A2,c2',ranges_below HRG3.out B5.out (by omega) (Nat.lt_succ_self _),HC2.out,by rw [hml],by rw [hml];exact O5.out,BW3.out.trans (B5.out.mono (Nat.le_succ _)),Nat.le_trans SZ3.out B5.out.size⟩
   case measure=>rw [(ranges_below HRG3.out B5.out (by omega) (Nat.lt_succ_self _)).left_eq,HRG.out.left_eq];exact LT.out
end Go.Proofs.YtifgcfepbenpjaaGreat
namespace Go.Proofs.YtifgcfepbenpjaaGreat
open Go.RowKit Go.Maps
theorem wf_pair {p:Int} (h0:0≤p) (h:p < 3):(Lit.int .i64 p).wf=true:=by
 have:p=0∨p=1∨p=2:=by omega
 rcases this with rfl | rfl | rfl <;> decide
theorem TabAt.mono {w:World} {B n n':Nat} {t:List Rc} (h:TabAt w B n t) (hn:n≤n'):TabAt w B n' t:=by
 obtain ⟨D,h,k⟩:=h
 exact ⟨D,h.mono hn,k⟩
theorem go_pair {b:Txt} (hb:∀ z ∈ b,isByte z) (h:isGo b):0≤b.getD 1 0∧b.getD 1 0 < 3:=⟨(byte_getD11 hb 1).1,h.2.2⟩
theorem pput_any (B n:Nat) (t:List Rc) (A:Option Addr) (nb cb:Nat) (b:Txt) (w:World) (ht:mayTab t) (h:TabAt w B n t) (hn:n≤100000) (hb:Arg w .u8 A nb cb b) (hby:∀ z ∈ b,isByte z) (hl:nb≤1000) :
  Calls Tryz.prog 110 #[.map (some B),.slice A nb cb] w fun e w'=>e=.returned (.bool (putN t b).isSome)∧TabAt w' B (n + 1) ((putN t b).getD t)∧w.grownBy w' (some B):=by
 have RI:=Lh (precin_any A nb cb b w hb hby hl)
 have GI:=Lh (fun wx (hx:Arg wx .u8 A nb cb b)=>pgonein_any A nb cb b wx hx hby hl)
 unfold OfOut at RI
 unfold GoOut at GI
 have HB:=Lh hb
 have HT:=Lh h
 have BY:=Lh hby
 have MT:=Lh ht
 have hnm:n < maxLen:=by unfold maxLen;omega
 have RAW:=Lh (fun (k:isN b)=>raw_is k.1 hby)
 clear hb hby ht h hl hn
 go_enter Tryz.func110,Tryz.ntmps110
 go_wp2_with fail
 refine RI.out.mono ?_
 rintro e w1 ⟨⟨hN,rfl⟩ | ⟨hN,s,rfl⟩,hb1⟩
 ·have HX:=Lh (show putN t b=some (withR t (rawR b)) from (if_neg (not_go hN)).trans (if_pos hN))
  have HRI:=Lh (RAW.out hN)
  have MR:=Lh hN.2.2.2
  have HF:=Lh (with_find MT.out hN.2.2.2)
  obtain ⟨r,hr⟩:∃ r,r=rawR b:=⟨_,rfl⟩
  rw [← hr] at HX HRI MR HF ⊢
  obtain ⟨x,hbx⟩:=rec_box w1 r
  obtain ⟨c0,c1,c2,c3,c4,c5,c6,c7⟩:=x.rec
  have B2:=Lh (hb1.trans (hbx.mono hb1.size))
  have T2:=Lh ((HT.out.below hb1).below hbx)
  clear hr x hbx hN RAW hb1 RI GI HB BY
  go_wp2_with (first
   | (at_mapUpdate;refine wpList_tab_put _ rfl _ _ _ rfl B n t (withR t r) rfl T2.out hnm r HRI.out (wf_pair MR.out.1.1 MR.out.1.2.1) rfl rfl HF.out ?_;intro w5 hT5 hG5;have T5:=Lh hT5;have G5:=Lh hG5;clear hT5 hG5)
   | go_in)
  go_ret
  rw [HX.out]
  exact ⟨rfl,T5.out,grownBy_trans (below_grown11 B2.out _) G5.out⟩
 ·obtain ⟨x,hbx⟩:=rec_box w1 s
  have B2:=Lh (hb1.trans (hbx.mono hb1.size))
  have T2:=Lh ((HT.out.below hb1).below hbx)
  have HB2:=Lh ((HB.out.below hb1).below hbx)
  have HN:=Lh hN
  clear x hbx hN RAW hb1 RI
  go_wp2_with fail
  refine (GI.out _ HB2.out).mono ?_
  rintro e w3 ⟨⟨hg,rfl⟩ | ⟨hg,rfl⟩,hb3⟩
  ·have HX:=Lh (show putN t b=some (outR t (b.getD 1 0)) from if_pos hg)
   have HP:=Lh (go_pair BY.out hg)
   have B3:=Lh (B2.out.trans (hb3.mono B2.out.size))
   have T3:=Lh (T2.out.below hb3)
   obtain ⟨q,hq⟩:∃ q,q=b.getD 1 0:=⟨_,rfl⟩
   rw [← hq] at HX HP ⊢
   clear hq hg hb3 GI HB2
   go_wp2_with (first
    | (at_delete;refine wpList_tab_del _ rfl _ _ rfl B n t (outR t q) rfl T3.out q (wf_pair HP.out.1 HP.out.2) rfl (out_find t q) ?_;intro w5 hT5 hG5;have T5:=Lh hT5;have G5:=Lh hG5;clear hT5 hG5)
    | go_in)
   go_ret
   rw [HX.out]
   exact ⟨rfl,T5.out.mono (Nat.le_succ _),grownBy_trans (below_grown11 B3.out _) G5.out⟩
  ·have HX:=Lh (show putN t b=none from (if_neg hg).trans (if_neg HN.out))
   have B3:=Lh (B2.out.trans (hb3.mono B2.out.size))
   have T3:=Lh (T2.out.below hb3)
   clear hg hb3 GI HB2
   go_wp2
   go_ret
   rw [HX.out]
   exact ⟨rfl,T3.out.mono (Nat.le_succ _),below_grown11 B3.out _⟩
theorem tabTo_step (t:List Rc) (l:List Txt) {k:Nat} (hk:k < l.length) {x:List Rc} (h:tabTo t (l.take k)=some x):tabTo t (l.take (k + 1))=putR x (l.getD k []):=by
 rw [List.take_succ_eq_append_getElem hk,tabTo_app,h]
 have e:l.getD k []=l[k]:=by simp [List.getD_eq_getElem?_getD,hk]
 rw [e]
 show (putR x l[k]).bind (fun y=>tabTo y [])=_
 cases putR x l[k] <;> rfl
theorem tabTo_none (t:List Rc) (l:List Txt) (k:Nat) (h:tabTo t (l.take k)=none):tabTo t l=none:=by
 rw [← List.take_append_drop k l,tabTo_app,h]
 rfl
def WithOut (w:World) (B:Nat) (x:Option (List Rc)) (e:Ending) (w':World):Prop:=∃ A' c',e=.returned (.tuple #[.slice A' (ansL x).length c',.int .i64 (ansE x)])∧OwnRecs w' w.heap.size A' (ansL x).length c' (ansL x)∧w.grownBy w' (some B)
theorem pwith_any (B n:Nat) (t:List Rc) (A:Option Addr) (m c:Nat) (l:List Txt) (w:World) (ht:mayTab t) (h:TabAt w B n t) (hn:n≤1000) (hl:Texts w A m c l) (hm:m≤1000) (hs:ShortT l m) :
  Calls Tryz.prog 68 #[.map (some B),.slice A m c] w (WithOut w B (tabTo t l)):=by
 have hlen:=hl.len
 have HL:=Lh hl
 have HT:=Lh h
 have SH:=Lh hs
 have ST:=Lh (fun k (hk:k < m) x=>tabTo_step t l (k:=k) (by rw [hlen];exact hk) (x:=x))
 have NO:=Lh (tabTo_none t l)
 have ALL:=Lh (show tabTo t (l.take m)=tabTo t l by rw [← hlen,List.take_length])
 have MAY:=Lh (fun k x (h:tabTo t (l.take k)=some x)=>tabTo_may ht h)
 have T0:=Lh (show tabTo t (l.take 0)=some t from rfl)
 clear hl hlen ht h hs
 unfold WithOut
 obtain ⟨R,hR⟩:∃ R,R=tabTo t l:=⟨_,rfl⟩
 rw [← hR] at NO ALL ⊢
 clear hR
 go_enter Tryz.func68,Tryz.ntmps68
 go_wp2
 go_loopw [10] (fun i wr=>∃ (k:Nat) (x:List Rc),k≤m∧i=.int .i64 k∧tabTo t (l.take k)=some x∧TabAt wr B (n + k) x∧w.grownBy wr (some B)) (fun i _=>m - (intOf i).toNat)
 case atStart=>exact ⟨0,t,Nat.zero_le _,rfl,T0.out,HT.out,grownBy_refl _ _⟩
 case round =>
  obtain ⟨k,x,hk,rfl,hx,hT,hg⟩:=hrel
  by_cases hkn:k < m
  ·have hTX:=Texts.turned HT.out hg HL.out
   obtain ⟨b,o,Ai,ni,ci,rfl,hlt,hc,ha⟩:=hTX.at_ k hkn
   have hby:=HL.out.byte_at k
   have hst:=ST.out k hkn x hx
   have hmx:=MAY.out k x hx
   rw [show putR x (l.getD k [])=putN x (l.getD k []) from if_pos hmx] at hst
   have hsh:=SH.out k hkn
   rw [ha.len] at hsh
   have PU:=pput_any B (n + k) x Ai ni ci (l.getD k []) wr hmx hT (by omega) ha hby (by omega)
   have G:=Lh hg
   have HC:=Lh hc
   rcases hy:putN x (l.getD k []) with _ | z
   ·rw [hy] at PU hst
    have PU:=Lh PU
    have HNO:=Lh (NO.out _ hst)
    clear hy hx hT hg ha hby hst hmx hsh ST NO ALL MAY HL HT SH T0 hTX
    go_wp2_with fail
    refine PU.out.mono ?_
    rintro e w2 ⟨rfl,_,hg2⟩
    have G2:=Lh (grownBy_trans G.out hg2)
    clear hg2 hc HC
    go_wp2
    go_ret2
    rw [HNO.out]
    exact ⟨none,0,rfl,OwnRecs.nil _ _,G2.out⟩
   ·rw [hy] at PU hst
    have PU:=Lh PU
    have HST:=Lh hst
    clear hy hx hT hg ha hby hst hmx hsh ST NO ALL MAY HL HT SH T0 hTX
    go_wp2_with fail
    refine PU.out.mono ?_
    rintro e w2 ⟨rfl,hT2,hg2⟩
    have G2:=Lh (grownBy_trans G.out hg2)
    have T2:=Lh (show TabAt w2 B (n + (k + 1)) z from hT2)
    clear hg2 hT2 hc HC
    go_wp2
    go_roundw
    case rel=>exact ⟨k + 1,z,by omega,by go_num,HST.out,T2.out,G2.out⟩
    case measure=>simp [intOf];omega
  ·obtain rfl:k=m:=by omega
   have hmx:=MAY.out k x hx
   rw [ALL.out] at hx
   have SO:=Lh (psorted_any B (n + k) x wr hmx hT)
   have HX:=Lh hx
   have G:=Lh hg
   clear hx hg hT hmx
   go_wp2_with fail
   refine SO.out.mono ?_
   rintro e w2 ⟨A2,c2,rfl,hO,hb⟩
   have O:=Lh (hO.lower G.out.size)
   have G2:=Lh (grownBy_trans G.out (below_grown11 hb _))
   clear hO hb
   go_wp2
   go_ret2
   rw [HX.out]
   exact ⟨A2,c2,rfl,O.out,G2.out⟩
end Go.Proofs.YtifgcfepbenpjaaGreat
