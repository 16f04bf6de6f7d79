/- Texts of layers 1 to 12, joined. -/
import Derived.Test.YtifgcfepbenpjaaGreatNa20
import Derived.Deep.RegionWith
import Derived.Deep.RegionHeld3
import Derived.Deep.Cut
import Derived.WalkKit
import Derived.BigQuiet
set_option maxRecDepth 100000
set_option maxHeartbeats 12800000
set_option linter.unusedVariables false
namespace Go.Proofs.YtifgcfepbenpjaaGreat
open Go.RowKit
section
variable {P:Program} {ops:Array Oper} {Q:Exit→Act→World→Prop} {md:Region.Mode} {S:World→Prop} {st:Nat}
theorem wpAnyG_takeF {i:Nat} {oi:Oper} {v:Value} {fuel:Nat} {listed:Array Bool} {a:Act} {w:World} (hi:ops[i]?=some oi)
  (hs:Region.noSelect ops=true) (hf:Region.free md ops listed i=true) (hr:(Region.ready md ops listed).contains i=true) (hw:depB md ops i 8 st=true) (hcl:closedB md ops listed=true) (hist:(i != st)=true)
  (hQ:∀ c a w,Q (.panic c) (a.put oi.dst v) w→Q (.panic c) a w) (hy:YieldsIf P ops S oi v a) (hS:S w)
  (h:wpAnyG P md ops Q S st fuel (listed.setIfInBounds i true) (a.put oi.dst v) w):wpAnyG P md ops Q S st (fuel + 1) listed a w :=
 wpAnyG_first hi (Region.noSelect_spec hs) 8 hw (bne_iff_ne.1 hist) hQ fuel listed a w (closed_of hcl) (Region.free_spec hi hf) (by simpa using hr) hy hS h
end
theorem find_at {t:List Rc} {p:Int} {k:Nat} (hk:k < t.length) (hp:(t.getD k zR).p=p) (h:∀ y,y < k→(t.getD y zR).p≠p):fR t p=some (t.getD k zR):=by
 unfold fR
 rw [List.find?_eq_some_iff_getElem]
 have e:t.getD k zR=t[k]:=by rw [gtD,geE hk];rfl
 refine ⟨by simpa using hp,k,hk,e.symm,fun j hj=>?_⟩
 have:=h j hj
 rw [gtD,geE (show j < t.length by omega)] at this
 simpa using this
theorem find_not {t:List Rc} {p:Int} (h:∀ y,y < t.length→(t.getD y zR).p≠p):fR t p=none:=by
 refine List.find?_eq_none.2 fun x hx=>?_
 obtain ⟨j,hj,e⟩:=List.getElem_of_mem hx
 have:=h j hj
 rw [gtD,geE hj] at this
 simp only [Option.getD_some] at this
 rw [e] at this
 simpa using this
theorem mayTab_idx (t:List Rc):mayTab t↔∀ y,y < t.length→mayR (t.getD y zR)∧(0 < y→(t.getD (y - 1) zR).p < (t.getD y zR).p):=by
 induction t with
 | nil=>simp [mayTab]
 | cons r t ih =>
  cases t with
  | nil =>
   show mayR r↔_
   constructor
   ·intro h y hy
    have hy0:y=0:=by simp at hy;omega
    subst hy0
    exact ⟨h,fun k=>absurd k (Nat.lt_irrefl _)⟩
   ·intro h
    exact (h 0 (by simp)).1
  | cons s l =>
   show (mayR r∧r.p < s.p∧mayTab (s :: l))↔_
   rw [ih]
   constructor
   ·rintro ⟨h1,h2,h3⟩ y hy
    cases y with
    | zero=>exact ⟨h1,fun k=>absurd k (Nat.lt_irrefl _)⟩
    | succ y =>
     have h4:=h3 y (by simpa using hy)
     refine ⟨h4.1,fun _=>?_⟩
     cases y with
     | zero=>exact h2
     | succ y=>exact h4.2 (by omega)
   ·intro h
    refine ⟨(h 0 (by simp)).1,(h 1 (by simp)).2 (by omega),fun y hy=>?_⟩
    have h4:=h (y + 1) (by simp at hy ⊢;omega)
    refine ⟨h4.1,fun hy0=>?_⟩
    obtain ⟨z,rfl⟩:∃ z,y=z + 1:=⟨y - 1,by omega⟩
    exact h4.2 (by omega)
theorem at_any (A:Option Addr) (n c:Nat) (t:List Rc) (p:Int) (w:World) (ht:Recs w A n c t) :
  Calls Tryz.prog 146 #[.slice A n c,.int .i64 p] w fun e w'=>((∃ i:Nat,i < n∧fR t p=some (t.getD i zR)∧e=.returned (.int .i64 (i:Int)))∨(fR t p=none∧e=.returned (.int .i64 (-1))))∧w'=w:=by
 have HT:=Lh ht
 have hlen:=ht.len
 have hcm:=Nat.le_trans ht.cap ht.max
 unfold maxLen at hcm
 have FA:=Lh (fun k=>find_at (t:=t) (p:=p) (k:=k))
 have FN:=Lh (find_not (t:=t) (p:=p))
 rw [hlen] at FN
 obtain ⟨o,ho⟩:∃ o,o=fR t p:=⟨_,rfl⟩
 rw [← ho] at FA FN ⊢
 clear ht ho
 go_enter Tryz.func146,Tryz.ntmps146
 go_wp2
 go_loopw [5] (fun i wr=>∃ k:Nat,k≤n∧i=.int .i64 k∧(∀ y,y < k→(t.getD y zR).p≠p)∧wr=w) (fun i _=>n - (intOf i).toNat)
 case atStart=>exact ⟨0,Nat.zero_le _,rfl,fun y hy=>absurd hy (Nat.not_lt_zero _),rfl⟩
 case round =>
  obtain ⟨k,hk,rfl,hall,rfl⟩:=hrel
  have ALL:=Lh hall
  clear hall
  by_cases hkn:k < n
  ·obtain ⟨b,o,rfl,hlt,c0,_⟩:=HT.out.row hkn
   have FK:=Lh (FA.out k (by omega))
   obtain ⟨x,hx⟩:∃ x,x=(t.getD k zR).p:=⟨_,rfl⟩
   rw [← hx] at c0
   have HX:=Lh hx
   clear hx
   by_cases hxp:x=p
   ·have hb:(x == p)=true:=by simpa using hxp
    have HXP:=Lh hxp
    clear hxp
    go_wp2
    go_ret
    exact ⟨.inl ⟨k,hkn,FK.out (by rw [← HX.out];exact HXP.out) ALL.out,rfl⟩,rfl⟩
   ·have hb:(x == p)=false:=by simpa using hxp
    have HXP:=Lh hxp
    clear hxp
    go_wp2
    go_roundw
    case rel =>
     refine ⟨k + 1,by omega,by go_num,fun y hy=>?_,(by first | trivial | rfl)⟩
     rcases Nat.lt_or_ge y k with h' | h'
     ·exact ALL.out y h'
     ·obtain rfl:y=k:=by omega
      rw [← HX.out]
      exact HXP.out
    case measure=>simp [intOf];omega
  ·obtain rfl:k=n:=by omega
   have HN:=Lh (FN.out ALL.out)
   go_wp2
   go_ret
   exact ⟨.inr ⟨HN.out,rfl⟩,rfl⟩
theorem rmayAll_any (A:Option Addr) (n c:Nat) (t:List Rc) (w:World) (ht:Recs w A n c t) (hn:n≤100000) :
  Calls Tryz.prog 98 #[.slice A n c] w fun e w'=>e=.returned (.bool (decide (mayTab t)))∧Below w.heap.size w w':=by
 have HT:=Lh ht
 have hlen:=ht.len
 have YES:=Lh (fun h=>(show decide (mayTab t)=true from decide_eq_true ((mayTab_idx t).2 h)))
 have NO:=Lh (fun y (hy:y < t.length) (h:¬ (mayR (t.getD y zR)∧(0 < y→(t.getD (y - 1) zR).p < (t.getD y zR).p)))=>(show decide (mayTab t)=false from decide_eq_false fun k=>h ((mayTab_idx t).1 k y hy)))
 rw [hlen] at YES NO
 obtain ⟨R,hR⟩:∃ R,R=decide (mayTab t):=⟨_,rfl⟩
 rw [← hR] at YES NO ⊢
 clear ht hR
 go_enter Tryz.func98,Tryz.ntmps98
 go_wp2
 go_loopw [3] (fun i wr=>∃ k:Nat,k≤n∧i=.int .i64 k∧(∀ y,y < k→mayR (t.getD y zR)∧(0 < y→(t.getD (y - 1) zR).p < (t.getD y zR).p))∧Below w.heap.size w wr) (fun i _=>n - (intOf i).toNat)
 case atStart=>exact ⟨0,Nat.zero_le _,rfl,fun y hy=>absurd hy (Nat.not_lt_zero _),Below.refl _ _⟩
 case round =>
  obtain ⟨k,hk,rfl,hall,hbw⟩:=hrel
  have ALL:=Lh hall
  have BW:=Lh hbw
  clear hall hbw
  by_cases hkn:k < n
  ·have hT:=HT.out.below BW.out
   obtain ⟨b,o,rfl,hlt,c0,c1,c2,c3,c4,c5,c6,c7⟩:=hT.row hkn
   have HTW:=Lh hT
   have NOK:=Lh (NO.out k hkn)
   obtain ⟨r,hr⟩:∃ r,r=t.getD k zR:=⟨_,rfl⟩
   rw [← hr] at c0 c1 c2 c3 c4 c5 c6 c7
   have HR:=Lh hr
   have hcur:Below wr.heap.size wr wr.drew:=below_drewN (Below.refl _ _) 1
   by_cases hm:mayR r
   ·have M:=Lh (fun wx=>mayr_yes r wx hm)
    have HM:=Lh hm
    by_cases hk0:k=0
    ·subst hk0
     clear hm hr
     go_upto_region 4 with fail
     have keepX:∀ wx,Below wr.heap.size wr wx→wx.cell? ⟨b,o,none⟩=some (.int .i64 r.p)∧wx.cell? ⟨b,o + 1,none⟩=some (.int .u32 r.b)∧wx.cell? ⟨b,o + 2,none⟩=some (.int .u32 r.e)∧wx.cell? ⟨b,o + 3,none⟩=some (.int .i64 r.l)∧wx.cell? ⟨b,o + 4,none⟩=some (.int .u8 r.h)∧wx.cell? ⟨b,o + 5,none⟩=some (.int .i64 r.f)∧wx.cell? ⟨b,o + 6,none⟩=some (.bool r.q)∧wx.cell? ⟨b,o + 7,none⟩=some (.bool r.a):=fun wx hx=>by
      have hT2:=HTW.out.below hx
      obtain ⟨b2,o2,eb,_,d0,d1,d2,d3,d4,d5,d6,d7⟩:=hT2.row hkn
      injection eb with eb;injection eb with eb1 eb2 _;subst eb1;subst eb2
      rw [← HR.out] at d0 d1 d2 d3 d4 d5 d6 d7
      simp only [Nat.zero_mul,Nat.add_zero] at d0 d1 d2 d3 d4 d5 d6 d7
      exact ⟨d0,d1,d2,d3,d4,d5,d6,d7⟩
     clear c0 c1 c2 c3 c4 c5 c6 c7
     have hHeld:=keepX _ hcur
     refine wp_region_to 23 (fun w'=>w'.cell? ⟨b,o,none⟩=some (.int .i64 r.p)∧w'.cell? ⟨b,o + 1,none⟩=some (.int .u32 r.b)∧w'.cell? ⟨b,o + 2,none⟩=some (.int .u32 r.e)∧w'.cell? ⟨b,o + 3,none⟩=some (.int .i64 r.l)∧w'.cell? ⟨b,o + 4,none⟩=some (.int .u8 r.h)∧w'.cell? ⟨b,o + 5,none⟩=some (.int .i64 r.f)∧w'.cell? ⟨b,o + 6,none⟩=some (.bool r.q)∧w'.cell? ⟨b,o + 7,none⟩=some (.bool r.a)) (by kernel_rfl) ?_
     refine wpAnyG_takeF (i:=0) (v:=?_) rfl (by kernel_rfl) (by kernel_rfl) (by kernel_rfl) (by kernel_rfl) (by kernel_rfl) rfl (fun _ _ _ h=>h) (Or.inl ⟨by rfl,?_⟩) hHeld ?_
     rotate_left
     ·(intro w' hSw;(try dsimp only at hSw);go_simp;(try with_reducible rfl))
     try simp only [Act.put,stA,scZ,scS,List.getElem_toArray,List.getElem_cons_zero]
     refine wpAnyG_takeF (i:=1) (v:=?_) rfl (by kernel_rfl) (by kernel_rfl) (by kernel_rfl) (by kernel_rfl) (by kernel_rfl) rfl (fun _ _ _ h=>h) (Or.inl ⟨by rfl,?_⟩) hHeld ?_
     rotate_left
     ·(intro w' hSw;(try dsimp only at hSw);go_simp;(try with_reducible rfl))
     try simp only [Act.put,stA,scZ,scS,List.getElem_toArray,List.getElem_cons_zero,List.getElem_cons_succ]
     refine wpAnyG_takeF (i:=2) (v:=?_) rfl (by kernel_rfl) (by kernel_rfl) (by kernel_rfl) (by kernel_rfl) (by kernel_rfl) rfl (fun _ _ _ h=>h) (Or.inl ⟨by rfl,?_⟩) hHeld ?_
     rotate_left
     ·(intro w' hSw;(try dsimp only at hSw);go_simp;(try with_reducible rfl))
     try simp only [Act.put,stA,scZ,scS,List.getElem_toArray,List.getElem_cons_zero,List.getElem_cons_succ]
     refine wpAnyG_takeF (i:=3) (v:=?_) rfl (by kernel_rfl) (by kernel_rfl) (by kernel_rfl) (by kernel_rfl) (by kernel_rfl) rfl (fun _ _ _ h=>h) (Or.inl ⟨by rfl,?_⟩) hHeld ?_
     rotate_left
     ·(intro w' hSw;(try dsimp only at hSw);go_simp;(try with_reducible rfl))
     try simp only [Act.put,stA,scZ,scS,List.getElem_toArray,List.getElem_cons_zero,List.getElem_cons_succ]
     refine wpAnyG_one (i:=4) (by kernel_rfl) rfl (fun K hK=>?_)
     go_simp
     go_at_call 145
     refine (M.out _).mono ?_
     rintro e wM ⟨rfl,hb⟩
     have hcur:=hcur.trans (hb.mono hcur.size)
     refine hK.out _ _ (fun _=>keepX _ hcur) (fun hHeld=>?_)
     have hHeld:=hHeld (by decide)
     clear hK K
     try simp only [Act.put,stA,scZ,scS,List.getElem_toArray,List.getElem_cons_zero,List.getElem_cons_succ]
     refine wpAnyG_takeF (i:=5) (v:=?_) rfl (by kernel_rfl) (by kernel_rfl) (by kernel_rfl) (by kernel_rfl) (by kernel_rfl) rfl (fun _ _ _ h=>h) (Or.inl ⟨by rfl,?_⟩) hHeld ?_
     rotate_left
     ·(intro w' hSw;(try dsimp only at hSw);go_simp;(try with_reducible rfl))
     try simp only [Act.put,stA,scZ,scS,List.getElem_toArray,List.getElem_cons_zero,List.getElem_cons_succ]
     refine wpAnyG_takeF (i:=6) (v:=?_) rfl (by kernel_rfl) (by kernel_rfl) (by kernel_rfl) (by kernel_rfl) (by kernel_rfl) rfl (fun _ _ _ h=>h) (Or.inl ⟨by rfl,?_⟩) hHeld ?_
     rotate_left
     ·(intro w' hSw;(try dsimp only at hSw);go_simp;(try with_reducible rfl))
     try simp only [Act.put,stA,scZ,scS,List.getElem_toArray,List.getElem_cons_zero,List.getElem_cons_succ]
     refine wpAnyG_takeF (i:=7) (v:=?_) rfl (by kernel_rfl) (by kernel_rfl) (by kernel_rfl) (by kernel_rfl) (by kernel_rfl) rfl (fun _ _ _ h=>h) (Or.inl ⟨by rfl,?_⟩) hHeld ?_
     rotate_left
     ·(intro w' hSw;(try dsimp only at hSw);go_simp;(try with_reducible rfl))
     try simp only [Act.put,stA,scZ,scS,List.getElem_toArray,List.getElem_cons_zero,List.getElem_cons_succ]
     refine wpAnyG_takeF (i:=8) (v:=?_) rfl (by kernel_rfl) (by kernel_rfl) (by kernel_rfl) (by kernel_rfl) (by kernel_rfl) rfl (fun _ _ _ h=>h) (Or.inl ⟨by rfl,?_⟩) hHeld ?_
     rotate_left
     ·(intro w' hSw;(try dsimp only at hSw);go_simp;(try with_reducible rfl))
     try simp only [Act.put,stA,scZ,scS,List.getElem_toArray,List.getElem_cons_zero,List.getElem_cons_succ]
     refine wpAnyG_takeF (i:=9) (v:=?_) rfl (by kernel_rfl) (by kernel_rfl) (by kernel_rfl) (by kernel_rfl) (by kernel_rfl) rfl (fun _ _ _ h=>h) (Or.inl ⟨by rfl,?_⟩) hHeld ?_
     rotate_left
     ·(intro w' hSw;(try dsimp only at hSw);go_simp;(try with_reducible rfl))
     try simp only [Act.put,stA,scZ,scS,List.getElem_toArray,List.getElem_cons_zero,List.getElem_cons_succ]
     refine wpAnyG_takeF (i:=10) (v:=undef) rfl (by kernel_rfl) (by kernel_rfl) (by kernel_rfl) (by kernel_rfl) (by kernel_rfl) rfl (fun _ _ _ h=>h) (Or.inr ⟨by rfl,rfl⟩) hHeld ?_
     try simp only [Act.put,stA,scZ,scS,List.getElem_toArray,List.getElem_cons_zero,List.getElem_cons_succ]
     refine wpAnyG_takeF (i:=11) (v:=undef) rfl (by kernel_rfl) (by kernel_rfl) (by kernel_rfl) (by kernel_rfl) (by kernel_rfl) rfl (fun _ _ _ h=>h) (Or.inr ⟨by rfl,rfl⟩) hHeld ?_
     try simp only [Act.put,stA,scZ,scS,List.getElem_toArray,List.getElem_cons_zero,List.getElem_cons_succ]
     refine wpAnyG_takeF (i:=12) (v:=undef) rfl (by kernel_rfl) (by kernel_rfl) (by kernel_rfl) (by kernel_rfl) (by kernel_rfl) rfl (fun _ _ _ h=>h) (Or.inr ⟨by rfl,rfl⟩) hHeld ?_
     try simp only [Act.put,stA,scZ,scS,List.getElem_toArray,List.getElem_cons_zero,List.getElem_cons_succ]
     refine wpAnyG_takeF (i:=13) (v:=undef) rfl (by kernel_rfl) (by kernel_rfl) (by kernel_rfl) (by kernel_rfl) (by kernel_rfl) rfl (fun _ _ _ h=>h) (Or.inr ⟨by rfl,rfl⟩) hHeld ?_
     try simp only [Act.put,stA,scZ,scS,List.getElem_toArray,List.getElem_cons_zero,List.getElem_cons_succ]
     refine wpAnyG_takeF (i:=14) (v:=undef) rfl (by kernel_rfl) (by kernel_rfl) (by kernel_rfl) (by kernel_rfl) (by kernel_rfl) rfl (fun _ _ _ h=>h) (Or.inr ⟨by rfl,rfl⟩) hHeld ?_
     try simp only [Act.put,stA,scZ,scS,List.getElem_toArray,List.getElem_cons_zero,List.getElem_cons_succ]
     refine wpAnyG_takeF (i:=15) (v:=undef) rfl (by kernel_rfl) (by kernel_rfl) (by kernel_rfl) (by kernel_rfl) (by kernel_rfl) rfl (fun _ _ _ h=>h) (Or.inr ⟨by rfl,rfl⟩) hHeld ?_
     try simp only [Act.put,stA,scZ,scS,List.getElem_toArray,List.getElem_cons_zero,List.getElem_cons_succ]
     refine wpAnyG_takeF (i:=16) (v:=undef) rfl (by kernel_rfl) (by kernel_rfl) (by kernel_rfl) (by kernel_rfl) (by kernel_rfl) rfl (fun _ _ _ h=>h) (Or.inr ⟨by rfl,rfl⟩) hHeld ?_
     try simp only [Act.put,stA,scZ,scS,List.getElem_toArray,List.getElem_cons_zero,List.getElem_cons_succ]
     refine wpAnyG_takeF (i:=17) (v:=undef) rfl (by kernel_rfl) (by kernel_rfl) (by kernel_rfl) (by kernel_rfl) (by kernel_rfl) rfl (fun _ _ _ h=>h) (Or.inr ⟨by rfl,rfl⟩) hHeld ?_
     try simp only [Act.put,stA,scZ,scS,List.getElem_toArray,List.getElem_cons_zero,List.getElem_cons_succ]
     refine wpAnyG_takeF (i:=18) (v:=undef) rfl (by kernel_rfl) (by kernel_rfl) (by kernel_rfl) (by kernel_rfl) (by kernel_rfl) rfl (fun _ _ _ h=>h) (Or.inr ⟨by rfl,rfl⟩) hHeld ?_
     try simp only [Act.put,stA,scZ,scS,List.getElem_toArray,List.getElem_cons_zero,List.getElem_cons_succ]
     refine wpAnyG_takeF (i:=19) (v:=undef) rfl (by kernel_rfl) (by kernel_rfl) (by kernel_rfl) (by kernel_rfl) (by kernel_rfl) rfl (fun _ _ _ h=>h) (Or.inr ⟨by rfl,rfl⟩) hHeld ?_
     try simp only [Act.put,stA,scZ,scS,List.getElem_toArray,List.getElem_cons_zero,List.getElem_cons_succ]
     refine wpAnyG_takeF (i:=20) (v:=undef) rfl (by kernel_rfl) (by kernel_rfl) (by kernel_rfl) (by kernel_rfl) (by kernel_rfl) rfl (fun _ _ _ h=>h) (Or.inr ⟨by rfl,rfl⟩) hHeld ?_
     try simp only [Act.put,stA,scZ,scS,List.getElem_toArray,List.getElem_cons_zero,List.getElem_cons_succ]
     refine wpAnyG_takeF (i:=21) (v:=undef) rfl (by kernel_rfl) (by kernel_rfl) (by kernel_rfl) (by kernel_rfl) (by kernel_rfl) rfl (fun _ _ _ h=>h) (Or.inr ⟨by rfl,rfl⟩) hHeld ?_
     try simp only [Act.put,stA,scZ,scS,List.getElem_toArray,List.getElem_cons_zero,List.getElem_cons_succ]
     refine wpAnyG_takeF (i:=22) (v:=?_) rfl (by kernel_rfl) (by kernel_rfl) (by kernel_rfl) (by kernel_rfl) (by kernel_rfl) rfl (fun _ _ _ h=>h) (Or.inl ⟨by rfl,?_⟩) hHeld ?_
     rotate_left
     ·(intro w' hSw;(try dsimp only at hSw);go_simp;(try with_reducible rfl))
     try simp only [Act.put,stA,scZ,scS,List.getElem_toArray,List.getElem_cons_zero,List.getElem_cons_succ]
     refine wpAnyG_one (i:=23) (by kernel_rfl) rfl (fun K hK=>?_)
     go_simp
     refine hK.out _ _ (fun h=>absurd rfl h) (fun _=>?_)
     clear hK K
     refine wpAnyG_done (by kernel_rfl) ?_ _
     have BM:=Lh (BW.out.trans (hcur.mono BW.out.size))
     go_wp2
     go_roundw
     case rel =>
      refine ⟨1,by omega,by go_num,fun y hy=>?_,BM.out⟩
      obtain rfl:y=0:=by omega
      rw [← HR.out]
      exact ⟨HM.out,fun h=>absurd h (by omega)⟩
     case measure=>simp [intOf];omega
    ·obtain ⟨m,rfl⟩:∃ m,k=m + 1:=⟨k - 1,by omega⟩
     obtain ⟨s,hs⟩:∃ s,s=t.getD m zR:=⟨_,rfl⟩
     have HS:=Lh hs
     by_cases hps:s.p < r.p
     ·have hle:¬ r.p≤s.p:=by omega
      have hb0:(0:Int)≤(m:Int) + 1:=by omega
      have hb1:(m:Int) + 1 < (n:Int):=by omega
      have hb2:(0:Int)≤(m:Int):=by omega
      have hb3:(m:Int) < (n:Int):=by omega
      have hb4:(m:Int) + 1 - 1=(m:Int):=by omega
      have hb5:IntKind.i64.wrap (m:Int)=(m:Int):=by rw [IntKind.wrap_i64];omega
      have hd1:decide (0 < m + 1)=true:=decide_eq_true (by omega)
      have hd2:decide ((0:Int) < (m:Int) + 1)=true:=decide_eq_true (by omega)
      have hd3:decide (r.p≤s.p)=false:=decide_eq_false hle
      have HPS:=Lh hps
      clear hm hr hs hps
      go_upto_region 4 with fail
      have keepX:∀ wx,Below wr.heap.size wr wx→wx.cell? ⟨b,o + (m + 1) * 8,none⟩=some (.int .i64 r.p)∧wx.cell? ⟨b,o + (m + 1) * 8 + 1,none⟩=some (.int .u32 r.b)∧wx.cell? ⟨b,o + (m + 1) * 8 + 2,none⟩=some (.int .u32 r.e)∧wx.cell? ⟨b,o + (m + 1) * 8 + 3,none⟩=some (.int .i64 r.l)∧wx.cell? ⟨b,o + (m + 1) * 8 + 4,none⟩=some (.int .u8 r.h)∧wx.cell? ⟨b,o + (m + 1) * 8 + 5,none⟩=some (.int .i64 r.f)∧wx.cell? ⟨b,o + (m + 1) * 8 + 6,none⟩=some (.bool r.q)∧wx.cell? ⟨b,o + (m + 1) * 8 + 7,none⟩=some (.bool r.a)∧wx.cell? ⟨b,o + m * 8,none⟩=some (.int .i64 s.p):=fun wx hx=>by
       have hT2:=HTW.out.below hx
       obtain ⟨b2,o2,eb,_,d0,d1,d2,d3,d4,d5,d6,d7⟩:=hT2.row hkn
       injection eb with eb;injection eb with eb1 eb2 _;subst eb1;subst eb2
       rw [← HR.out] at d0 d1 d2 d3 d4 d5 d6 d7
       obtain ⟨b3,o3,eb,_,f0,_⟩:=hT2.row (show m < n by omega)
       injection eb with eb;injection eb with eb1 eb2 _;subst eb1;subst eb2
       rw [← HS.out] at f0
       exact ⟨d0,d1,d2,d3,d4,d5,d6,d7,f0⟩
      clear c0 c1 c2 c3 c4 c5 c6 c7
      have hkX:=keepX _ hcur
      go_region_held3 (fun w'=>w'.cell? ⟨b,o + (m + 1) * 8,none⟩=some (.int .i64 r.p)∧w'.cell? ⟨b,o + (m + 1) * 8 + 1,none⟩=some (.int .u32 r.b)∧w'.cell? ⟨b,o + (m + 1) * 8 + 2,none⟩=some (.int .u32 r.e)∧w'.cell? ⟨b,o + (m + 1) * 8 + 3,none⟩=some (.int .i64 r.l)∧w'.cell? ⟨b,o + (m + 1) * 8 + 4,none⟩=some (.int .u8 r.h)∧w'.cell? ⟨b,o + (m + 1) * 8 + 5,none⟩=some (.int .i64 r.f)∧w'.cell? ⟨b,o + (m + 1) * 8 + 6,none⟩=some (.bool r.q)∧w'.cell? ⟨b,o + (m + 1) * 8 + 7,none⟩=some (.bool r.a)∧w'.cell? ⟨b,o + m * 8,none⟩=some (.int .i64 s.p))
       (first | exact hkX | go_keep)
       (first | (go_at_call 145;with_reducible refine (M.out _).mono ?_;rintro e wM ⟨rfl,hb⟩;have hcur:=hcur.trans (hb.mono hcur.size);have hkX:=keepX _ hcur))
      have BM:=Lh (BW.out.trans (hcur.mono BW.out.size))
      go_wp2
      go_roundw
      case rel =>
       refine ⟨m + 1 + 1,by omega,by go_num,fun y hy=>?_,BM.out⟩
       rcases Nat.lt_or_ge y (m + 1) with h' | h'
       ·exact ALL.out y h'
       ·obtain rfl:y=m + 1:=by omega
        rw [← HR.out,show m + 1 - 1=m by omega,← HS.out]
        exact ⟨HM.out,fun _=>HPS.out⟩
      case measure=>simp [intOf];omega
     ·have hle:r.p≤s.p:=by omega
      have hb0:(0:Int)≤(m:Int) + 1:=by omega
      have hb1:(m:Int) + 1 < (n:Int):=by omega
      have hb2:(0:Int)≤(m:Int):=by omega
      have hb3:(m:Int) < (n:Int):=by omega
      have hb4:(m:Int) + 1 - 1=(m:Int):=by omega
      have hb5:IntKind.i64.wrap (m:Int)=(m:Int):=by rw [IntKind.wrap_i64];omega
      have hd1:decide (0 < m + 1)=true:=decide_eq_true (by omega)
      have hd2:decide ((0:Int) < (m:Int) + 1)=true:=decide_eq_true (by omega)
      have hd3:decide (r.p≤s.p)=true:=decide_eq_true hle
      have HN:=Lh (NOK.out (fun h=>by
       have h2:=h.2 (Nat.succ_pos m)
       rw [show m + 1 - 1=m by omega,← hs,← hr] at h2
       omega))
      clear hm hr hs hps
      go_upto_region 4 with fail
      have keepX:∀ wx,Below wr.heap.size wr wx→wx.cell? ⟨b,o + (m + 1) * 8,none⟩=some (.int .i64 r.p)∧wx.cell? ⟨b,o + (m + 1) * 8 + 1,none⟩=some (.int .u32 r.b)∧wx.cell? ⟨b,o + (m + 1) * 8 + 2,none⟩=some (.int .u32 r.e)∧wx.cell? ⟨b,o + (m + 1) * 8 + 3,none⟩=some (.int .i64 r.l)∧wx.cell? ⟨b,o + (m + 1) * 8 + 4,none⟩=some (.int .u8 r.h)∧wx.cell? ⟨b,o + (m + 1) * 8 + 5,none⟩=some (.int .i64 r.f)∧wx.cell? ⟨b,o + (m + 1) * 8 + 6,none⟩=some (.bool r.q)∧wx.cell? ⟨b,o + (m + 1) * 8 + 7,none⟩=some (.bool r.a)∧wx.cell? ⟨b,o + m * 8,none⟩=some (.int .i64 s.p):=fun wx hx=>by
       have hT2:=HTW.out.below hx
       obtain ⟨b2,o2,eb,_,d0,d1,d2,d3,d4,d5,d6,d7⟩:=hT2.row hkn
       injection eb with eb;injection eb with eb1 eb2 _;subst eb1;subst eb2
       rw [← HR.out] at d0 d1 d2 d3 d4 d5 d6 d7
       obtain ⟨b3,o3,eb,_,f0,_⟩:=hT2.row (show m < n by omega)
       injection eb with eb;injection eb with eb1 eb2 _;subst eb1;subst eb2
       rw [← HS.out] at f0
       exact ⟨d0,d1,d2,d3,d4,d5,d6,d7,f0⟩
      clear c0 c1 c2 c3 c4 c5 c6 c7
      have hkX:=keepX _ hcur
      go_region_held3 (fun w'=>w'.cell? ⟨b,o + (m + 1) * 8,none⟩=some (.int .i64 r.p)∧w'.cell? ⟨b,o + (m + 1) * 8 + 1,none⟩=some (.int .u32 r.b)∧w'.cell? ⟨b,o + (m + 1) * 8 + 2,none⟩=some (.int .u32 r.e)∧w'.cell? ⟨b,o + (m + 1) * 8 + 3,none⟩=some (.int .i64 r.l)∧w'.cell? ⟨b,o + (m + 1) * 8 + 4,none⟩=some (.int .u8 r.h)∧w'.cell? ⟨b,o + (m + 1) * 8 + 5,none⟩=some (.int .i64 r.f)∧w'.cell? ⟨b,o + (m + 1) * 8 + 6,none⟩=some (.bool r.q)∧w'.cell? ⟨b,o + (m + 1) * 8 + 7,none⟩=some (.bool r.a)∧w'.cell? ⟨b,o + m * 8,none⟩=some (.int .i64 s.p))
       (first | exact hkX | go_keep)
       (first | (go_at_call 145;with_reducible refine (M.out _).mono ?_;rintro e wM ⟨rfl,hb⟩;have hcur:=hcur.trans (hb.mono hcur.size);have hkX:=keepX _ hcur))
      have BM:=Lh (BW.out.trans (hcur.mono BW.out.size))
      go_wp2
      go_ret
      rw [HN.out]
      exact ⟨rfl,BM.out⟩
   ·have M:=Lh (fun wx=>mayr_no r wx hm)
    have HN:=Lh (NOK.out (fun h=>hm (by rw [hr];exact h.1)))
    clear hm hr
    go_upto_region 4 with fail
    have keepX:∀ wx,Below wr.heap.size wr wx→wx.cell? ⟨b,o + k * 8,none⟩=some (.int .i64 r.p)∧wx.cell? ⟨b,o + k * 8 + 1,none⟩=some (.int .u32 r.b)∧wx.cell? ⟨b,o + k * 8 + 2,none⟩=some (.int .u32 r.e)∧wx.cell? ⟨b,o + k * 8 + 3,none⟩=some (.int .i64 r.l)∧wx.cell? ⟨b,o + k * 8 + 4,none⟩=some (.int .u8 r.h)∧wx.cell? ⟨b,o + k * 8 + 5,none⟩=some (.int .i64 r.f)∧wx.cell? ⟨b,o + k * 8 + 6,none⟩=some (.bool r.q)∧wx.cell? ⟨b,o + k * 8 + 7,none⟩=some (.bool r.a):=fun wx hx=>by
     have hT2:=HTW.out.below hx
     obtain ⟨b2,o2,eb,_,d0,d1,d2,d3,d4,d5,d6,d7⟩:=hT2.row hkn
     injection eb with eb;injection eb with eb1 eb2 _;subst eb1;subst eb2
     rw [← HR.out] at d0 d1 d2 d3 d4 d5 d6 d7
     exact ⟨d0,d1,d2,d3,d4,d5,d6,d7⟩
    clear c0 c1 c2 c3 c4 c5 c6 c7
    have hHeld:=keepX _ hcur
    refine wp_region_to 23 (fun w'=>w'.cell? ⟨b,o + k * 8,none⟩=some (.int .i64 r.p)∧w'.cell? ⟨b,o + k * 8 + 1,none⟩=some (.int .u32 r.b)∧w'.cell? ⟨b,o + k * 8 + 2,none⟩=some (.int .u32 r.e)∧w'.cell? ⟨b,o + k * 8 + 3,none⟩=some (.int .i64 r.l)∧w'.cell? ⟨b,o + k * 8 + 4,none⟩=some (.int .u8 r.h)∧w'.cell? ⟨b,o + k * 8 + 5,none⟩=some (.int .i64 r.f)∧w'.cell? ⟨b,o + k * 8 + 6,none⟩=some (.bool r.q)∧w'.cell? ⟨b,o + k * 8 + 7,none⟩=some (.bool r.a)) (by kernel_rfl) ?_
    refine wpAnyG_takeF (i:=0) (v:=?_) rfl (by kernel_rfl) (by kernel_rfl) (by kernel_rfl) (by kernel_rfl) (by kernel_rfl) rfl (fun _ _ _ h=>h) (Or.inl ⟨by rfl,?_⟩) hHeld ?_
    rotate_left
    ·(intro w' hSw;(try dsimp only at hSw);go_simp;(try with_reducible rfl))
    try simp only [Act.put,stA,scZ,scS,List.getElem_toArray,List.getElem_cons_zero]
    refine wpAnyG_takeF (i:=1) (v:=?_) rfl (by kernel_rfl) (by kernel_rfl) (by kernel_rfl) (by kernel_rfl) (by kernel_rfl) rfl (fun _ _ _ h=>h) (Or.inl ⟨by rfl,?_⟩) hHeld ?_
    rotate_left
    ·(intro w' hSw;(try dsimp only at hSw);go_simp;(try with_reducible rfl))
    try simp only [Act.put,stA,scZ,scS,List.getElem_toArray,List.getElem_cons_zero,List.getElem_cons_succ]
    refine wpAnyG_takeF (i:=2) (v:=?_) rfl (by kernel_rfl) (by kernel_rfl) (by kernel_rfl) (by kernel_rfl) (by kernel_rfl) rfl (fun _ _ _ h=>h) (Or.inl ⟨by rfl,?_⟩) hHeld ?_
    rotate_left
    ·(intro w' hSw;(try dsimp only at hSw);go_simp;(try with_reducible rfl))
    try simp only [Act.put,stA,scZ,scS,List.getElem_toArray,List.getElem_cons_zero,List.getElem_cons_succ]
    refine wpAnyG_takeF (i:=3) (v:=?_) rfl (by kernel_rfl) (by kernel_rfl) (by kernel_rfl) (by kernel_rfl) (by kernel_rfl) rfl (fun _ _ _ h=>h) (Or.inl ⟨by rfl,?_⟩) hHeld ?_
    rotate_left
    ·(intro w' hSw;(try dsimp only at hSw);go_simp;(try with_reducible rfl))
    try simp only [Act.put,stA,scZ,scS,List.getElem_toArray,List.getElem_cons_zero,List.getElem_cons_succ]
    refine wpAnyG_one (i:=4) (by kernel_rfl) rfl (fun K hK=>?_)
    go_simp
    go_at_call 145
    refine (M.out _).mono ?_
    rintro e wM ⟨rfl,hb⟩
    have hcur:=hcur.trans (hb.mono hcur.size)
    refine hK.out _ _ (fun _=>keepX _ hcur) (fun hHeld=>?_)
    have hHeld:=hHeld (by decide)
    clear hK K
    try simp only [Act.put,stA,scZ,scS,List.getElem_toArray,List.getElem_cons_zero,List.getElem_cons_succ]
    refine wpAnyG_takeF (i:=5) (v:=?_) rfl (by kernel_rfl) (by kernel_rfl) (by kernel_rfl) (by kernel_rfl) (by kernel_rfl) rfl (fun _ _ _ h=>h) (Or.inl ⟨by rfl,?_⟩) hHeld ?_
    rotate_left
    ·(intro w' hSw;(try dsimp only at hSw);go_simp;(try with_reducible rfl))
    try simp only [Act.put,stA,scZ,scS,List.getElem_toArray,List.getElem_cons_zero,List.getElem_cons_succ]
    refine wpAnyG_takeF (i:=6) (v:=?_) rfl (by kernel_rfl) (by kernel_rfl) (by kernel_rfl) (by kernel_rfl) (by kernel_rfl) rfl (fun _ _ _ h=>h) (Or.inl ⟨by rfl,?_⟩) hHeld ?_
    rotate_left
    ·(intro w' hSw;(try dsimp only at hSw);go_simp;(try with_reducible rfl))
    try simp only [Act.put,stA,scZ,scS,List.getElem_toArray,List.getElem_cons_zero,List.getElem_cons_succ]
    refine wpAnyG_takeF (i:=7) (v:=undef) rfl (by kernel_rfl) (by kernel_rfl) (by kernel_rfl) (by kernel_rfl) (by kernel_rfl) rfl (fun _ _ _ h=>h) (Or.inr ⟨by rfl,rfl⟩) hHeld ?_
    try simp only [Act.put,stA,scZ,scS,List.getElem_toArray,List.getElem_cons_zero,List.getElem_cons_succ]
    refine wpAnyG_takeF (i:=8) (v:=undef) rfl (by kernel_rfl) (by kernel_rfl) (by kernel_rfl) (by kernel_rfl) (by kernel_rfl) rfl (fun _ _ _ h=>h) (Or.inr ⟨by rfl,rfl⟩) hHeld ?_
    try simp only [Act.put,stA,scZ,scS,List.getElem_toArray,List.getElem_cons_zero,List.getElem_cons_succ]
    refine wpAnyG_takeF (i:=9) (v:=undef) rfl (by kernel_rfl) (by kernel_rfl) (by kernel_rfl) (by kernel_rfl) (by kernel_rfl) rfl (fun _ _ _ h=>h) (Or.inr ⟨by rfl,rfl⟩) hHeld ?_
    try simp only [Act.put,stA,scZ,scS,List.getElem_toArray,List.getElem_cons_zero,List.getElem_cons_succ]
    refine wpAnyG_takeF (i:=10) (v:=undef) rfl (by kernel_rfl) (by kernel_rfl) (by kernel_rfl) (by kernel_rfl) (by kernel_rfl) rfl (fun _ _ _ h=>h) (Or.inr ⟨by rfl,rfl⟩) hHeld ?_
    try simp only [Act.put,stA,scZ,scS,List.getElem_toArray,List.getElem_cons_zero,List.getElem_cons_succ]
    refine wpAnyG_takeF (i:=11) (v:=undef) rfl (by kernel_rfl) (by kernel_rfl) (by kernel_rfl) (by kernel_rfl) (by kernel_rfl) rfl (fun _ _ _ h=>h) (Or.inr ⟨by rfl,rfl⟩) hHeld ?_
    try simp only [Act.put,stA,scZ,scS,List.getElem_toArray,List.getElem_cons_zero,List.getElem_cons_succ]
    refine wpAnyG_takeF (i:=12) (v:=undef) rfl (by kernel_rfl) (by kernel_rfl) (by kernel_rfl) (by kernel_rfl) (by kernel_rfl) rfl (fun _ _ _ h=>h) (Or.inr ⟨by rfl,rfl⟩) hHeld ?_
    try simp only [Act.put,stA,scZ,scS,List.getElem_toArray,List.getElem_cons_zero,List.getElem_cons_succ]
    refine wpAnyG_takeF (i:=13) (v:=undef) rfl (by kernel_rfl) (by kernel_rfl) (by kernel_rfl) (by kernel_rfl) (by kernel_rfl) rfl (fun _ _ _ h=>h) (Or.inr ⟨by rfl,rfl⟩) hHeld ?_
    try simp only [Act.put,stA,scZ,scS,List.getElem_toArray,List.getElem_cons_zero,List.getElem_cons_succ]
    refine wpAnyG_takeF (i:=14) (v:=undef) rfl (by kernel_rfl) (by kernel_rfl) (by kernel_rfl) (by kernel_rfl) (by kernel_rfl) rfl (fun _ _ _ h=>h) (Or.inr ⟨by rfl,rfl⟩) hHeld ?_
    try simp only [Act.put,stA,scZ,scS,List.getElem_toArray,List.getElem_cons_zero,List.getElem_cons_succ]
    refine wpAnyG_takeF (i:=15) (v:=undef) rfl (by kernel_rfl) (by kernel_rfl) (by kernel_rfl) (by kernel_rfl) (by kernel_rfl) rfl (fun _ _ _ h=>h) (Or.inr ⟨by rfl,rfl⟩) hHeld ?_
    try simp only [Act.put,stA,scZ,scS,List.getElem_toArray,List.getElem_cons_zero,List.getElem_cons_succ]
    refine wpAnyG_takeF (i:=16) (v:=undef) rfl (by kernel_rfl) (by kernel_rfl) (by kernel_rfl) (by kernel_rfl) (by kernel_rfl) rfl (fun _ _ _ h=>h) (Or.inr ⟨by rfl,rfl⟩) hHeld ?_
    try simp only [Act.put,stA,scZ,scS,List.getElem_toArray,List.getElem_cons_zero,List.getElem_cons_succ]
    refine wpAnyG_takeF (i:=17) (v:=undef) rfl (by kernel_rfl) (by kernel_rfl) (by kernel_rfl) (by kernel_rfl) (by kernel_rfl) rfl (fun _ _ _ h=>h) (Or.inr ⟨by rfl,rfl⟩) hHeld ?_
    try simp only [Act.put,stA,scZ,scS,List.getElem_toArray,List.getElem_cons_zero,List.getElem_cons_succ]
    refine wpAnyG_takeF (i:=18) (v:=undef) rfl (by kernel_rfl) (by kernel_rfl) (by kernel_rfl) (by kernel_rfl) (by kernel_rfl) rfl (fun _ _ _ h=>h) (Or.inr ⟨by rfl,rfl⟩) hHeld ?_
    try simp only [Act.put,stA,scZ,scS,List.getElem_toArray,List.getElem_cons_zero,List.getElem_cons_succ]
    refine wpAnyG_takeF (i:=19) (v:=undef) rfl (by kernel_rfl) (by kernel_rfl) (by kernel_rfl) (by kernel_rfl) (by kernel_rfl) rfl (fun _ _ _ h=>h) (Or.inr ⟨by rfl,rfl⟩) hHeld ?_
    try simp only [Act.put,stA,scZ,scS,List.getElem_toArray,List.getElem_cons_zero,List.getElem_cons_succ]
    refine wpAnyG_takeF (i:=20) (v:=undef) rfl (by kernel_rfl) (by kernel_rfl) (by kernel_rfl) (by kernel_rfl) (by kernel_rfl) rfl (fun _ _ _ h=>h) (Or.inr ⟨by rfl,rfl⟩) hHeld ?_
    try simp only [Act.put,stA,scZ,scS,List.getElem_toArray,List.getElem_cons_zero,List.getElem_cons_succ]
    refine wpAnyG_takeF (i:=21) (v:=undef) rfl (by kernel_rfl) (by kernel_rfl) (by kernel_rfl) (by kernel_rfl) (by kernel_rfl) rfl (fun _ _ _ h=>h) (Or.inr ⟨by rfl,rfl⟩) hHeld ?_
    try simp only [Act.put,stA,scZ,scS,List.getElem_toArray,List.getElem_cons_zero,List.getElem_cons_succ]
    refine wpAnyG_takeF (i:=22) (v:=undef) rfl (by kernel_rfl) (by kernel_rfl) (by kernel_rfl) (by kernel_rfl) (by kernel_rfl) rfl (fun _ _ _ h=>h) (Or.inr ⟨by rfl,rfl⟩) hHeld ?_
    try simp only [Act.put,stA,scZ,scS,List.getElem_toArray,List.getElem_cons_zero,List.getElem_cons_succ]
    refine wpAnyG_one (i:=23) (by kernel_rfl) rfl (fun K hK=>?_)
    go_simp
    refine hK.out _ _ (fun h=>absurd rfl h) (fun _=>?_)
    clear hK K
    refine wpAnyG_done (by kernel_rfl) ?_ _
    have BM:=Lh (BW.out.trans (hcur.mono BW.out.size))
    go_wp2
    go_ret
    rw [HN.out]
    exact ⟨rfl,BM.out⟩
  ·obtain rfl:k=n:=by omega
   have HN:=Lh (YES.out ALL.out)
   go_wp2
   go_ret
   rw [HN.out]
   exact ⟨rfl,BW.out⟩
end Go.Proofs.YtifgcfepbenpjaaGreat
