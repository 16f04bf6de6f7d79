/- Texts of layers 1 to 12, joined. -/
import Derived.Test.YtifgcfepbenpjaaGreatNa35
import Derived.BigQuiet
set_option maxRecDepth 100000
set_option maxHeartbeats 12800000
set_option linter.unusedVariables false
namespace Go.Proofs.YtifgcfepbenpjaaGreat
open Go.RowKit
theorem rec_same {a b:List Rc} {n:Nat} (ha:a.length=n) (hb:b.length=n) (h:∀ y,y < n→a.getD y zR=b.getD y zR):a=b:=by
 refine List.ext_getElem (ha.trans hb.symm) fun i h1 h2=>?_
 have:=h i (by omega)
 simpa [List.getD_eq_getElem?_getD,h1,h2] using this
theorem same_len (A:Option Addr) (n c:Nat) (A':Option Addr) (n' c':Nat) (w:World) (hne:n≠n') :
  Calls Tryz.prog 30 #[.slice A n c,.slice A' n' c'] w fun e w'=>e=.returned (.bool false)∧∃ q,w'=w.drewN q:=by
 have h2:¬ (n:Int)=(n':Int):=by omega
 go_enter Tryz.func30,Tryz.ntmps30
 go_wp2
 go_ret
 exact ⟨rfl,0,rfl⟩
theorem same11_any (A:Option Addr) (n c:Nat) (a:List Rc) (A':Option Addr) (n' c':Nat) (b:List Rc) (w:World) (ha:Recs w A n c a) (hb:Recs w A' n' c' b) :
  Calls Tryz.prog 30 #[.slice A n c,.slice A' n' c'] w fun e w'=>e=.returned (.bool (decide (a=b)))∧∃ q,w'=w.drewN q:=by
 by_cases hn:n=n'
 ·subst hn
  have HA:=Lh ha
  have HB:=Lh hb
  have hcm:=Nat.le_trans ha.cap ha.max
  unfold maxLen at hcm
  have YES:=Lh fun h=>(show decide (a=b)=true from decide_eq_true (rec_same ha.len hb.len h))
  have NO:=Lh fun k (h:a.getD k zR≠b.getD k zR)=>(show decide (a=b)=false from decide_eq_false fun e=>h (by rw [e]))
  obtain ⟨R,hR⟩:∃ R,R=decide (a=b):=⟨_,rfl⟩
  rw [← hR] at YES NO ⊢
  clear ha hb hR
  go_enter Tryz.func30,Tryz.ntmps30
  go_wp2
  go_loopw [5] (fun i wr=>∃ k:Nat,k≤n∧i=.int .i64 k∧(∀ y,y < k→a.getD y zR=b.getD y zR)∧∃ q,wr=w.drewN q) (fun i _=>n - (intOf i).toNat)
  case atStart=>exact ⟨0,Nat.zero_le _,rfl,fun y hy=>by omega,0,rfl⟩
  case round =>
   obtain ⟨k,hk,rfl,hall,q,rfl⟩:=hrel
   have ALL:=Lh hall
   clear hall
   by_cases hkn:k < n
   ·obtain ⟨b1,o1,rfl,hlt1,c0,c1,c2,c3,c4,c5,c6,c7⟩:=HA.out.row hkn
    obtain ⟨b2,o2,rfl,hlt2,d0,d1,d2,d3,d4,d5,d6,d7⟩:=HB.out.row hkn
    have NOK:=Lh (NO.out k)
    obtain ⟨r,hr⟩:∃ x,x=a.getD k zR:=⟨_,rfl⟩
    obtain ⟨s,hs⟩:∃ x,x=b.getD k zR:=⟨_,rfl⟩
    rw [← hr] at c0 c1 c2 c3 c4 c5 c6 c7 NOK
    rw [← hs] at d0 d1 d2 d3 d4 d5 d6 d7 NOK
    have HX:=Lh hr
    have HY:=Lh hs
    have eqr:=eq_rec r s
    clear hr hs
    by_cases hxy:r=s
    ·rw [decide_eq_true hxy] at eqr
     have HXY:=Lh hxy
     clear hxy
     go_wp2
     go_quiet (fail)
     go_wp2
     go_roundw
     case rel =>
      refine ⟨k + 1,by omega,by go_num,fun y' hy'=>?_,_,rfl⟩
      rcases Nat.lt_or_ge y' k with h' | h'
      ·exact ALL.out y' h'
      ·obtain rfl:y'=k:=by omega
       rw [← HX.out,← HY.out]
       exact HXY.out
     case measure=>simp [intOf];omega
    ·rw [decide_eq_false hxy] at eqr
     have HN:=Lh (NOK.out hxy)
     clear hxy
     go_wp2
     go_quiet (fail)
     go_wp2
     go_ret
     rw [HN.out]
     exact ⟨rfl,_,by rw [World.drewN_drewN]⟩
   ·obtain rfl:k=n:=by omega
    have HY:=Lh (YES.out ALL.out)
    go_wp2
    go_ret
    rw [HY.out]
    exact ⟨rfl,q,rfl⟩
 ·rw [show decide (a=b)=false from decide_eq_false fun e=>hn (by rw [← ha.len,← hb.len,e])]
  exact same_len A n c A' n' c' w hn
end Go.Proofs.YtifgcfepbenpjaaGreat
namespace Go.Proofs.YtifgcfepbenpjaaGreat
open Go.RowKit Go.Shelf
attribute [local go_sem] Oper.semAt_some
end Go.Proofs.YtifgcfepbenpjaaGreat
namespace Go.Proofs.YtifgcfepbenpjaaGreat
open Go.RowKit Go.Shelf
attribute [local go_sem] Oper.semAt_some
end Go.Proofs.YtifgcfepbenpjaaGreat
