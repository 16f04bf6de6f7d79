/- Texts of the layers below, joined. -/
import Derived.Test.YtdbeiikaeccbhaaDa2
import Derived.Lib.SmallJoins
import Derived.WalkMore
import Derived.ScopeJumps
import Derived.StillTailTactics
import Derived.Deep.RegionWith
import Derived.Deep.QuietTactic
import Derived.BigQuiet
import Derived.Deep.RegionHeld3
set_option maxRecDepth 100000
set_option maxHeartbeats 12800000
set_option linter.unusedVariables false
namespace Go.Proofs.Ytdbeiikaeccbhaa
open Go.RowKit Go.OpenShut Go.ChangeShapes Go.WideShapes Go.Deep Go.Joins
abbrev cfgV (P T A M W Q:Int):Value:=.agg #[.int .i64 P,.int .i64 T,.int .i64 A,.int .i64 M,.int .i64 W,.int .i64 Q]
def mayC (P T A M W Q:Int):Prop:=1≤P∧P≤3∧1≤T∧T≤16∧P + 2≤A∧A≤32∧1≤M∧M≤P∧1≤W∧W≤4∧4≤Q∧Q≤64
instance (P T A M W Q:Int):Decidable (mayC P T A M W Q):=by unfold mayC;infer_instance
def pagC (T:Int):Int:=if 8 < T then 2 else 1
theorem pagC_or (T:Int):(pagC T=2∧8 < T)∨(pagC T=1∧T≤8):=by unfold pagC;split <;> omega
def fP (A:Int):Int:=2 + 2 * A
def fT (P T A:Int):Int:=2 + 2 * A + P * pagC T
def fE (P T A:Int):Int:=2 + 2 * A + P * pagC T + 4 * P * T
def chkC (P T A M W Q:Int):Int:=if mayC P T A M W Q then 0 else 8
def secN (P T A M W Q:Int):Int:=if mayC P T A M W Q then fE P T A else 0
def pagN (P T A M W Q:Int):Int:=if mayC P T A M W Q then pagC T else 0
def pgeE (P T A M W Q a n:Int):Int:=if mayC P T A M W Q then (if 0≤a∧a≤P - 1∧0≤n∧n≤pagC T - 1 then 0 else 2) else 8
def pgeN (P T A M W Q a n:Int):Int:=if mayC P T A M W Q then (if 0≤a∧a≤P - 1∧0≤n∧n≤pagC T - 1 then fP A + a * pagC T + n else 0) else 0
theorem mul3 {a:Int} (h0:0≤a) (h3:a≤3) (b:Int):(a=0∧a * b=0)∨(a=1∧a * b=b)∨(a=2∧a * b=2 * b)∨(a=3∧a * b=3 * b):=by
 have:a=0∨a=1∨a=2∨a=3:=by omega
 rcases this with h | h | h | h <;> subst h <;> simp
theorem mul43 {a:Int} (h0:0≤a) (h3:a≤3) (b:Int):4 * a * b=4 * (a * b):=Int.mul_assoc 4 a b
theorem bounds_may {P T A M W Q:Int} (h:mayC P T A M W Q):0≤P * T∧P * T≤48∧1≤pagC T∧pagC T≤2∧1≤P * pagC T∧P * pagC T≤6∧4 * P * T=4 * (P * T):=by
 obtain ⟨h1,h2,h3,h4,h5,h6,h7⟩:=h
 rw [mul43 (by omega) h2]
 rcases mul3 (by omega) h2 T with h | h | h | h <;> rcases mul3 (by omega) h2 (pagC T) with k | k | k | k <;> rcases pagC_or T with p | p <;> omega
theorem fE_le {P T A M W Q:Int} (h:mayC P T A M W Q):6≤fE P T A∧fE P T A≤264:=by
 have hb:=bounds_may h
 obtain ⟨h1,h2,h3,h4,h5,h6,h7⟩:=h
 unfold fE
 omega
theorem box_cfg (w:World) (P T A M W Q:Int) :
  Blk (w.alloc (.cells #[.int .i64 P,.int .i64 T,.int .i64 A,.int .i64 M,.int .i64 W,.int .i64 Q] 28)) w.heap.size 28 [.int .i64 P,.int .i64 T,.int .i64 A,.int .i64 M,.int .i64 W,.int .i64 Q] ∧
  Below w.heap.size w (w.alloc (.cells #[.int .i64 P,.int .i64 T,.int .i64 A,.int .i64 M,.int .i64 W,.int .i64 Q] 28)) :=
 ⟨Blk.new w 28 [.int .i64 P,.int .i64 T,.int .i64 A,.int .i64 M,.int .i64 W,.int .i64 Q],(Below.refl _ _).alloc (Nat.le_refl _) _⟩
theorem Blk.cfg {w:World} {g:Nat} {t:TypeId} {P T A M W Q:Int} (h:Blk w g t [.int .i64 P,.int .i64 T,.int .i64 A,.int .i64 M,.int .i64 W,.int .i64 Q]) :
  w.cell? ⟨g,0,none⟩=some (.int .i64 P)∧w.cell? ⟨g,1,none⟩=some (.int .i64 T)∧w.cell? ⟨g,2,none⟩=some (.int .i64 A)∧w.cell? ⟨g,3,none⟩=some (.int .i64 M)∧w.cell? ⟨g,4,none⟩=some (.int .i64 W)∧w.cell? ⟨g,5,none⟩=some (.int .i64 Q) :=
 ⟨h.cell 0,h.cell 1,h.cell 2,h.cell 3,h.cell 4,h.cell 5⟩
theorem array6 {α:Type} {cs:Array α} (h:cs.size=6):∃ c0 c1 c2 c3 c4 c5,cs=#[c0,c1,c2,c3,c4,c5]:=by
 obtain ⟨l⟩:=cs
 match l,h with
 | [c0,c1,c2,c3,c4,c5],_=>exact ⟨c0,c1,c2,c3,c4,c5,rfl⟩
section
variable {P:Program} {w:World} {base:Nat} {H:Type} {enc:TypeId × Value→H}
theorem trod_six {t:TypeId} {f0 f1 f2 f3 f4 f5:Field} {fuel:Nat} {cs:List Value} {x:DataW H × List MemPlace} (ht:P.underlying t=some (.struct #[f0,f1,f2,f3,f4,f5])) (h:DataW.trod enc P w base (fun _=>true) true fuel t cs=some x) :
  ∃ y0 y1 y2 y3 y4 y5 n,DataW.trod enc P w base (fun _=>true) true n f0.type ((cs.drop f0.offset).take (P.cellsOf f0.type))=some y0 ∧
   DataW.trod enc P w base (fun _=>true) true n f1.type ((cs.drop f1.offset).take (P.cellsOf f1.type))=some y1∧DataW.trod enc P w base (fun _=>true) true n f2.type ((cs.drop f2.offset).take (P.cellsOf f2.type))=some y2 ∧
   DataW.trod enc P w base (fun _=>true) true n f3.type ((cs.drop f3.offset).take (P.cellsOf f3.type))=some y3∧DataW.trod enc P w base (fun _=>true) true n f4.type ((cs.drop f4.offset).take (P.cellsOf f4.type))=some y4 ∧
   DataW.trod enc P w base (fun _=>true) true n f5.type ((cs.drop f5.offset).take (P.cellsOf f5.type))=some y5:=by
 obtain ⟨xs,n,_,rfl,hl,hlen,hf⟩:=DataW.trod_struct ht h
 match xs,hlen with
 | [y0,y1,y2,y3,y4,y5],_=>exact ⟨y0,y1,y2,y3,y4,y5,n,by simpa using hf 0 f0 rfl,by simpa using hf 1 f1 rfl,by simpa using hf 2 f2 rfl,by simpa using hf 3 f3 rfl,by simpa using hf 4 f4 rfl,by simpa using hf 5 f5 rfl⟩
theorem open_six {r:Reach} {b0:Nat} {t:TypeId} {f0 f1 f2 f3 f4 f5:Field} {v:Value} {d:DataW H} {p:List MemPlace} (hs:P.underlying t=some (.struct #[f0,f1,f2,f3,f4,f5])) (hone:oneCellFields P #[f0,f1,f2,f3,f4,f5]=true) (hC:P.cellsOf t=6)
  (hv:Value.okWide P w r b0 t v) (h:DataW.Trod enc P w base (fun _=>true) true t v d p) :
  ∃ (v0 v1 v2 v3 v4 v5:Value) (y0 y1 y2 y3 y4 y5:DataW H × List MemPlace) (n:Nat),v=.agg #[v0,v1,v2,v3,v4,v5] ∧
   DataW.trod enc P w base (fun _=>true) true n f0.type [v0]=some y0∧DataW.trod enc P w base (fun _=>true) true n f1.type [v1]=some y1∧DataW.trod enc P w base (fun _=>true) true n f2.type [v2]=some y2 ∧
   DataW.trod enc P w base (fun _=>true) true n f3.type [v3]=some y3∧DataW.trod enc P w base (fun _=>true) true n f4.type [v4]=some y4∧DataW.trod enc P w base (fun _=>true) true n f5.type [v5]=some y5:=by
 obtain ⟨cs,rfl,hsz⟩:=okWide_struct hs hv
 obtain ⟨c0,c1,c2,c3,c4,c5,rfl⟩:=array6 (hsz.trans hC)
 obtain ⟨fuel,hf⟩:=h
 obtain ⟨y0,y1,y2,y3,y4,y5,n,h0,h1,h2,h3,h4,h5⟩:=trod_six hs hf
 obtain ⟨o0,k0⟩:=hone_of hone 0 f0 rfl
 obtain ⟨o1,k1⟩:=hone_of hone 1 f1 rfl
 obtain ⟨o2,k2⟩:=hone_of hone 2 f2 rfl
 obtain ⟨o3,k3⟩:=hone_of hone 3 f3 rfl
 obtain ⟨o4,k4⟩:=hone_of hone 4 f4 rfl
 obtain ⟨o5,k5⟩:=hone_of hone 5 f5 rfl
 exact ⟨c0,c1,c2,c3,c4,c5,y0,y1,y2,y3,y4,y5,n,rfl,by simpa [Value.cells,o0,k0] using h0,by simpa [Value.cells,o1,k1] using h1,by simpa [Value.cells,o2,k2] using h2,by simpa [Value.cells,o3,k3] using h3,by simpa [Value.cells,o4,k4] using h4,by simpa [Value.cells,o5,k5] using h5⟩
end
theorem open_cfg {H:Type} {enc:TypeId × Value→H} {W:World} {b0:Nat} {r:Reach} {v:Value} {d:DataW H} {p:List MemPlace} (hv:Value.okWide Try.prog W r b0 28 v) (h:DataW.Trod enc Try.prog W 0 (fun _=>true) true 28 v d p) :
  ∃ P T A M Wi Q,v=cfgV P T A M Wi Q∧(Lit.int .i64 P).wf=true∧(Lit.int .i64 T).wf=true∧(Lit.int .i64 A).wf=true∧(Lit.int .i64 M).wf=true∧(Lit.int .i64 Wi).wf=true∧(Lit.int .i64 Q).wf=true:=by
 obtain ⟨v0,v1,v2,v3,v4,v5,y0,y1,y2,y3,y4,y5,n,rfl,g0,g1,g2,g3,g4,g5⟩:=open_six Try.underlying28 (by kernel_rfl) (by kernel_rfl) hv h
 obtain ⟨z0,e0,_,w0⟩:=DataW.trod_int Try.underlying3 g0
 obtain ⟨z1,e1,_,w1⟩:=DataW.trod_int Try.underlying3 g1
 obtain ⟨z2,e2,_,w2⟩:=DataW.trod_int Try.underlying3 g2
 obtain ⟨z3,e3,_,w3⟩:=DataW.trod_int Try.underlying3 g3
 obtain ⟨z4,e4,_,w4⟩:=DataW.trod_int Try.underlying3 g4
 obtain ⟨z5,e5,_,w5⟩:=DataW.trod_int Try.underlying3 g5
 injection e0 with e0 _
 injection e1 with e1 _
 injection e2 with e2 _
 injection e3 with e3 _
 injection e4 with e4 _
 injection e5 with e5 _
 subst e0;subst e1;subst e2;subst e3;subst e4;subst e5
 exact ⟨z0,z1,z2,z3,z4,z5,rfl,w0,w1,w2,w3,w4,w5⟩
end Go.Proofs.Ytdbeiikaeccbhaa
namespace Go.Proofs.Ytdbeiikaeccbhaa
open Go.RowKit
theorem wrap64_sm {x:Int} (h0:-100000≤x) (h1:x≤100000):wrap64 x=x:=by unfold wrap64;omega
theorem wrap_sm {x:Int} (h0:-100000≤x) (h1:x≤100000):IntKind.i64.wrap x=x:=by simp [IntKind.wrap_i64];omega
theorem results_tmp4 {fn:Func} {t u v x:Tmp} (h:fn.results=#[.tmp t,.tmp u,.tmp v,.tmp x]) (tmps:Array Value) (P:Program) (w:World) :
  (results fn tmps).run P w=.ok (.tuple #[tmps.getD t undef,tmps.getD u undef,tmps.getD v undef,tmps.getD x undef]) w:=by
 simp [results,h]
theorem in_yes (n l m:Int) (w:World) (h:l≤n∧n≤m):Calls Try.prog 76 #[.int .i64 n,.int .i64 l,.int .i64 m] w fun e w'=>e=.returned (.bool true)∧w'=w:=by
 obtain ⟨h1,h2⟩:=h
 go_enter Try.func76,Try.ntmps76
 go_wp2
 go_ret
 exact ⟨by simp,rfl⟩
theorem in_no (n l m:Int) (w:World) (h:¬ (l≤n∧n≤m)):Calls Try.prog 76 #[.int .i64 n,.int .i64 l,.int .i64 m] w fun e w'=>e=.returned (.bool false)∧w'=w:=by
 by_cases h1:l≤n
 ·have h2:¬ n≤m:=by omega
  clear h
  go_enter Try.func76,Try.ntmps76
  go_wp2
  go_ret
  exact ⟨by simp,rfl⟩
 ·clear h
  go_enter Try.func76,Try.ntmps76
  go_wp2
  go_ret
  exact ⟨rfl,rfl⟩
theorem rmay_any (P T A M W Q:Int) (w:World):Calls Try.prog 54 #[cfgV P T A M W Q] w fun e w'=>e=.returned (.bool (decide (mayC P T A M W Q)))∧Below w.heap.size w w':=by
 obtain ⟨x,hbel⟩:=box_cfg w P T A M W Q
 obtain ⟨c0,c1,c2,c3,c4,c5⟩:=x.cfg
 have X:=Lh x
 have BEL:=Lh hbel
 clear x hbel
 by_cases h0:1≤P∧P≤3
 ·have hw:wrap64 (P + 2)=P + 2:=wrap64_sm (by omega) (by omega)
  by_cases h1:1≤T∧T≤16
  ·skip
   by_cases h2:P + 2≤A∧A≤32
   ·skip
    by_cases h3:1≤M∧M≤P
    ·skip
     by_cases h4:1≤W∧W≤4
     ·skip
      by_cases h5:4≤Q∧Q≤64
      ·have hd:decide (mayC P T A M W Q)=true:=by rw [decide_eq_true_eq];unfold mayC;omega
       rw [hd]
       clear hd
       go_enter Try.func54,Try.ntmps54
       go_wp2_with fail
       refine (in_yes P (1) 3 _ h0).mono ?_
       rintro e w1 ⟨rfl,rfl⟩
       go_wp2_with fail
       refine (in_yes T (1) 16 _ h1).mono ?_
       rintro e w1 ⟨rfl,rfl⟩
       go_wp2_with fail
       refine (in_yes A (P + 2) 32 _ h2).mono ?_
       rintro e w1 ⟨rfl,rfl⟩
       go_wp2_with fail
       refine (in_yes M (1) P _ h3).mono ?_
       rintro e w1 ⟨rfl,rfl⟩
       go_wp2_with fail
       refine (in_yes W (1) 4 _ h4).mono ?_
       rintro e w1 ⟨rfl,rfl⟩
       go_wp2_with fail
       refine (in_yes Q (4) 64 _ h5).mono ?_
       rintro e w1 ⟨rfl,rfl⟩
       go_wp2
       go_ret
       exact ⟨rfl,BEL.out⟩
      ·have hd:decide (mayC P T A M W Q)=false:=by rw [decide_eq_false_iff_not];unfold mayC;omega
       rw [hd]
       clear hd
       go_enter Try.func54,Try.ntmps54
       go_wp2_with fail
       refine (in_yes P (1) 3 _ h0).mono ?_
       rintro e w1 ⟨rfl,rfl⟩
       go_wp2_with fail
       refine (in_yes T (1) 16 _ h1).mono ?_
       rintro e w1 ⟨rfl,rfl⟩
       go_wp2_with fail
       refine (in_yes A (P + 2) 32 _ h2).mono ?_
       rintro e w1 ⟨rfl,rfl⟩
       go_wp2_with fail
       refine (in_yes M (1) P _ h3).mono ?_
       rintro e w1 ⟨rfl,rfl⟩
       go_wp2_with fail
       refine (in_yes W (1) 4 _ h4).mono ?_
       rintro e w1 ⟨rfl,rfl⟩
       go_wp2_with fail
       refine (in_no Q (4) 64 _ h5).mono ?_
       rintro e w1 ⟨rfl,rfl⟩
       go_wp2
       go_ret
       exact ⟨rfl,BEL.out⟩
     ·have hd:decide (mayC P T A M W Q)=false:=by rw [decide_eq_false_iff_not];unfold mayC;omega
      rw [hd]
      clear hd
      go_enter Try.func54,Try.ntmps54
      go_wp2_with fail
      refine (in_yes P (1) 3 _ h0).mono ?_
      rintro e w1 ⟨rfl,rfl⟩
      go_wp2_with fail
      refine (in_yes T (1) 16 _ h1).mono ?_
      rintro e w1 ⟨rfl,rfl⟩
      go_wp2_with fail
      refine (in_yes A (P + 2) 32 _ h2).mono ?_
      rintro e w1 ⟨rfl,rfl⟩
      go_wp2_with fail
      refine (in_yes M (1) P _ h3).mono ?_
      rintro e w1 ⟨rfl,rfl⟩
      go_wp2_with fail
      refine (in_no W (1) 4 _ h4).mono ?_
      rintro e w1 ⟨rfl,rfl⟩
      go_wp2
      go_ret
      exact ⟨rfl,BEL.out⟩
    ·have hd:decide (mayC P T A M W Q)=false:=by rw [decide_eq_false_iff_not];unfold mayC;omega
     rw [hd]
     clear hd
     go_enter Try.func54,Try.ntmps54
     go_wp2_with fail
     refine (in_yes P (1) 3 _ h0).mono ?_
     rintro e w1 ⟨rfl,rfl⟩
     go_wp2_with fail
     refine (in_yes T (1) 16 _ h1).mono ?_
     rintro e w1 ⟨rfl,rfl⟩
     go_wp2_with fail
     refine (in_yes A (P + 2) 32 _ h2).mono ?_
     rintro e w1 ⟨rfl,rfl⟩
     go_wp2_with fail
     refine (in_no M (1) P _ h3).mono ?_
     rintro e w1 ⟨rfl,rfl⟩
     go_wp2
     go_ret
     exact ⟨rfl,BEL.out⟩
   ·have hd:decide (mayC P T A M W Q)=false:=by rw [decide_eq_false_iff_not];unfold mayC;omega
    rw [hd]
    clear hd
    go_enter Try.func54,Try.ntmps54
    go_wp2_with fail
    refine (in_yes P (1) 3 _ h0).mono ?_
    rintro e w1 ⟨rfl,rfl⟩
    go_wp2_with fail
    refine (in_yes T (1) 16 _ h1).mono ?_
    rintro e w1 ⟨rfl,rfl⟩
    go_wp2_with fail
    refine (in_no A (P + 2) 32 _ h2).mono ?_
    rintro e w1 ⟨rfl,rfl⟩
    go_wp2
    go_ret
    exact ⟨rfl,BEL.out⟩
  ·have hd:decide (mayC P T A M W Q)=false:=by rw [decide_eq_false_iff_not];unfold mayC;omega
   rw [hd]
   clear hd
   go_enter Try.func54,Try.ntmps54
   go_wp2_with fail
   refine (in_yes P (1) 3 _ h0).mono ?_
   rintro e w1 ⟨rfl,rfl⟩
   go_wp2_with fail
   refine (in_no T (1) 16 _ h1).mono ?_
   rintro e w1 ⟨rfl,rfl⟩
   go_wp2
   go_ret
   exact ⟨rfl,BEL.out⟩
 ·have hd:decide (mayC P T A M W Q)=false:=by rw [decide_eq_false_iff_not];unfold mayC;omega
  rw [hd]
  clear hd
  go_enter Try.func54,Try.ntmps54
  go_wp2_with fail
  refine (in_no P (1) 3 _ h0).mono ?_
  rintro e w1 ⟨rfl,rfl⟩
  go_wp2
  go_ret
  exact ⟨rfl,BEL.out⟩
theorem rmany_any (P T A M W Q:Int) (w:World):Calls Try.prog 98 #[cfgV P T A M W Q] w fun e w'=>e=.returned (.int .i64 (pagC T))∧Below w.heap.size w w':=by
 obtain ⟨x,hbel⟩:=box_cfg w P T A M W Q
 obtain ⟨c0,c1,c2,c3,c4,c5⟩:=x.cfg
 have X:=Lh x
 have BEL:=Lh hbel
 clear x hbel
 unfold pagC
 by_cases h:8 < T
 ·rw [if_pos h]
  go_enter Try.func98,Try.ntmps98
  go_wp2
  go_ret
  exact ⟨rfl,BEL.out⟩
 ·rw [if_neg h]
  go_enter Try.func98,Try.ntmps98
  go_wp2
  go_ret
  exact ⟨rfl,BEL.out⟩
theorem rfirst_any (P T A M W Q:Int) (w:World) (h:mayC P T A M W Q):Calls Try.prog 97 #[cfgV P T A M W Q] w fun e w'=>e=.returned (.tuple #[.int .i64 2,.int .i64 (fP A),.int .i64 (fT P T A),.int .i64 (fE P T A)])∧Below w.heap.size w w':=by
 obtain ⟨x,hbel⟩:=box_cfg w P T A M W Q
 obtain ⟨c0,c1,c2,c3,c4,c5⟩:=x.cfg
 have X:=Lh x
 have BEL:=Lh hbel
 clear x hbel
 have hb:=bounds_may h
 have hc:=h
 obtain ⟨h1,h2,h3,h4,h5,h6,h7⟩:=hc
 have R:=Lh (fun w':World=>rmany_any P T A M W Q w')
 unfold fE fT fP
 obtain ⟨g,hg⟩:∃ g,g=pagC T:=⟨_,rfl⟩
 rw [← hg] at R hb ⊢
 obtain ⟨b1,b2,b3,b4,b5,b6,b7⟩:=hb
 obtain ⟨x,hx⟩:∃ x,x=P * g:=⟨_,rfl⟩
 obtain ⟨y,hy⟩:∃ y,y=P * T:=⟨_,rfl⟩
 have m1:IntKind.i64.wrap (2 * A)=2 * A:=wrap_sm (by omega) (by omega)
 have m2:IntKind.i64.wrap (P * g)=x:=by rw [← hx];exact wrap_sm (by omega) (by omega)
 have m3:IntKind.i64.wrap (4 * P)=4 * P:=wrap_sm (by omega) (by omega)
 have m4:IntKind.i64.wrap (4 * P * T)=4 * y:=by rw [b7,← hy];exact wrap_sm (by omega) (by omega)
 have m5:IntKind.i64.wrap (2 + 2 * A)=2 + 2 * A:=wrap_sm (by omega) (by omega)
 have m6:IntKind.i64.wrap (2 + 2 * A + x)=2 + 2 * A + x:=wrap_sm (by omega) (by omega)
 have m7:IntKind.i64.wrap (2 + 2 * A + x + 4 * y)=2 + 2 * A + x + 4 * y:=wrap_sm (by omega) (by omega)
 have b1:0≤y:=by omega
 have b2:y≤48:=by omega
 have b5:1≤x:=by omega
 have b6:x≤6:=by omega
 rw [b7,← hx,← hy]
 clear hg hx hy b7 h
 go_enter Try.func97,Try.ntmps97
 go_wp2
 go_region_with (go_at_call 98;refine (R.out _).mono ?_;rintro e w2 ⟨rfl,hb2⟩;have hb3:=(below_drewN (Below.refl _ _) 1).trans hb2;have X2:=Lh (X.out.below hb3 X.out.lt);obtain ⟨d0,d1,d2,d3,d4,d5⟩:=X2.out.cfg;have B2:=Lh (BEL.out.trans (hb3.mono BEL.out.size));clear hb2 hb3)
 all_goals (go_wp2;go_quiet (fail);go_wp2;(try simp only [Exit.inBlock,Exit.then]);refine bodyPost_ret (results_tmp4 rfl _ _ _) rfl ?_;exact ⟨rfl,below_drewN B2.out _⟩)
theorem rofpage_any (P T A M W Q a n:Int) (w:World) (h:mayC P T A M W Q) (hc:0≤a∧a≤P - 1∧0≤n∧n≤pagC T - 1):Calls Try.prog 79 #[cfgV P T A M W Q,.int .i64 a,.int .i64 n] w fun e w'=>e=.returned (.int .i64 (fP A + a * pagC T + n))∧Below w.heap.size w w':=by
 obtain ⟨x,hbel⟩:=box_cfg w P T A M W Q
 obtain ⟨c0,c1,c2,c3,c4,c5⟩:=x.cfg
 have X:=Lh x
 have BEL:=Lh hbel
 clear x hbel
 have F:=Lh (fun w':World=>rfirst_any P T A M W Q w' h)
 have MN:=Lh (fun w':World=>rmany_any P T A M W Q w')
 have hb:=bounds_may h
 obtain ⟨h1,h2,h3,h4,h5,h6,h7⟩:=h
 obtain ⟨k1,k2,k3,k4⟩:=hc
 have hp:fP A=2 + 2 * A:=rfl
 have ht:fT P T A=2 + 2 * A + P * pagC T:=rfl
 obtain ⟨e,he⟩:∃ e,e=fE P T A:=⟨_,rfl⟩
 obtain ⟨g,hg⟩:∃ g,g=pagC T:=⟨_,rfl⟩
 obtain ⟨p,hpp⟩:∃ p,p=fP A:=⟨_,rfl⟩
 obtain ⟨t,htt⟩:∃ t,t=fT P T A:=⟨_,rfl⟩
 rw [← he,← hpp,← htt] at F
 rw [← hpp] at hp
 rw [← htt,← hg] at ht
 rw [← hg] at MN hb
 obtain ⟨b1,b2,b3,b4,b5,b6,b7⟩:=hb
 have hx:∃ x,x=a * g∧0≤x∧x≤64:=by
  refine ⟨_,rfl,?_⟩
  try rw [← hg] at k4
  rcases mul3 k1 (by omega) g with q | q | q | q <;> omega
 obtain ⟨x,hx,x0,x1⟩:=hx
 rw [← hpp,← hg,← hx]
 rw [← hg] at k4
 have m1:IntKind.i64.wrap (a * g)=x:=by rw [← hx];exact wrap_sm (by omega) (by omega)
 have m2:IntKind.i64.wrap (p + x)=p + x:=wrap_sm (by omega) (by omega)
 have m3:IntKind.i64.wrap (p + x + n)=p + x + n:=wrap_sm (by omega) (by omega)
 clear hx he hg hpp htt hp ht b1 b2 b3 b4 b5 b6 b7 h1 h2 h3 h4 h5 h6 h7 k1 k2 k3 k4
 go_enter Try.func79,Try.ntmps79
 go_wp2_with fail
 refine (F.out _).mono ?_
 rintro e w1 ⟨rfl,hb1⟩
 have hb:=hb1
 have X:=Lh (X.out.below (hb.mono (by have:=X.out.lt;omega)) X.out.lt)
 have BEL:=Lh (BEL.out.trans (hb.mono BEL.out.size))
 clear hb hb1 c0 c1 c2 c3 c4 c5
 obtain ⟨c0,c1,c2,c3,c4,c5⟩:=X.out.cfg
 go_wp2_with fail
 refine (MN.out _).mono ?_
 rintro e w2 ⟨rfl,hb2⟩
 have hb:=hb2
 have X:=Lh (X.out.below (hb.mono (by have:=X.out.lt;omega)) X.out.lt)
 have BEL:=Lh (BEL.out.trans (hb.mono BEL.out.size))
 clear hb hb2 c0 c1 c2 c3 c4 c5
 obtain ⟨c0,c1,c2,c3,c4,c5⟩:=X.out.cfg
 go_wp2
 go_ret
 exact ⟨rfl,BEL.out⟩
end Go.Proofs.Ytdbeiikaeccbhaa
