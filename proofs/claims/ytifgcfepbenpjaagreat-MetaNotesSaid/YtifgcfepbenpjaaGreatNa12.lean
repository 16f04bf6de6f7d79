/- Texts of layers 1 to 12, joined. -/
import Derived.Test.YtifgcfepbenpjaaGreatNa3
import Derived.Test.YtifgcfepbenpjaaGreatNa8
import Derived.Test.YtifgcfepbenpjaaGreatNa11
import Derived.BigQuiet
import Derived.Deep.RegionHeld3
import Derived.Deep.Cut
set_option maxRecDepth 100000
set_option maxHeartbeats 12800000
set_option linter.unusedVariables false
namespace Go.Proofs.YtifgcfepbenpjaaGreat
open Go.RowKit
def cellE (S:List Sec) (C:List Pnd) (at_ w:Int):Int:=if mayD S C=true then (if 1≤w∧w≤4∧0≤at_∧at_ + 2 * w≤(S.length:Int) then 0 else 2) else 8
def optAt (S:List Sec) (C:List Pnd) (a:Int):Option Txt:=if rdE S C a=0 then some (rdB S C a) else none
def optsOf (S:List Sec) (C:List Pnd) (at_:Int) (n:Nat):List (Option Txt):=(List.range n).map fun i:Nat=>optAt S C (at_ + (i:Int))
theorem optsOf_length (S:List Sec) (C:List Pnd) (at_:Int) (n:Nat):(optsOf S C at_ n).length=n:=by simp [optsOf]
theorem optsOf_get (S:List Sec) (C:List Pnd) (at_:Int) {n i:Nat} (h:i < n):(optsOf S C at_ n).getD i none=optAt S C (at_ + (i:Int)):=by
 rw [gtD,geE (by rw [optsOf_length];exact h)]
 simp [optsOf]
theorem rd_good {S:List Sec} {C:List Pnd} {at_:Int} (h:rdE S C at_=0) (hS:∀ s ∈ S,∀ z ∈ s.2,isByte z) (hC:∀ p ∈ C,∀ z ∈ p.2,isByte z):(rdB S C at_).length=32∧∀ z ∈ rdB S C at_,isByte z:=by
 have hB:rdB S C at_=gotB S C at_:=if_pos h
 have ha:askE S C at_=0:=by
  unfold rdE at h
  split at h
  ·assumption
  ·rename_i h2;exact absurd h h2
 obtain ⟨hm,a,rfl,hal⟩:=ask_zero ha
 have hm2:=(mayD_iff _ _).1 hm
 rw [hB]
 unfold gotB
 rcases hl:lastW C (a:Int) with _ | t
 ·have hx:secAt S (a:Int) ∈ S:=by
   unfold secAt
   rw [Int.toNat_natCast,gtD,geE hal]
   exact List.getElem_mem hal
  exact ⟨(hm2.2.1 _ hx).1,hS _ hx⟩
 ·unfold lastW at hl
  rcases hf:C.reverse.find? (fun p=>decide (p.1=(a:Int))) with _ | q
  ·rw [hf] at hl;cases hl
  ·rw [hf] at hl
   injection hl with hl
   subst hl
   have hx:q ∈ C:=List.mem_reverse.1 (List.mem_of_find?_eq_some hf)
   exact ⟨(hm2.2.2 _ hx).2.2,hC _ hx⟩
def OwnOpt (w:World) (base:Nat) (A:Option Addr) (n c:Nat):Option Txt→Prop
 | none=>A=none∧n=0∧c=0
 | some T=>OwnTxt w base A n c T∧T.length=32∧∀ z ∈ T,isByte z
theorem OwnOpt.opt {w:World} {base:Nat} {A:Option Addr} {n c:Nat} {t:Option Txt} (h:OwnOpt w base A n c t):OptArg w A n c t:=by
 cases t with
 | none=>exact h
 | some T=>exact ⟨h.1.arg,h.2⟩
theorem OwnOpt.below {w w':World} {base:Nat} {A:Option Addr} {n c:Nat} {t:Option Txt} (h:OwnOpt w base A n c t) (hb:Below w.heap.size w w'):OwnOpt w' base A n c t:=by
 cases t with
 | none=>exact h
 | some T=>exact ⟨h.1.below hb,h.2⟩
theorem OwnTxt.box {w:World} {base:Nat} {A:Option Addr} {n c:Nat} {T:Txt} (h:OwnTxt w base A n c T) {g:Nat} {t:TypeId} {cs:List Value} (hb:Blk w g t cs) (h2:t≠5) (i:Nat) (u:Value):OwnTxt (w.setCell ⟨g,i,none⟩ u) base A n c T :=
 h.keep fun g' _ hu=>Below.heap_setCell w _ u g' (fun e2=>by
  subst e2
  obtain ⟨cs',hc⟩:=hu
  unfold Blk at hb
  rw [hb] at hc
  simp at hc
  exact h2 hc.2)
theorem OwnOpt.box {w:World} {base:Nat} {A:Option Addr} {n c:Nat} {o:Option Txt} (h:OwnOpt w base A n c o) {g:Nat} {t:TypeId} {cs:List Value} (hb:Blk w g t cs) (h2:t≠5) (i:Nat) (u:Value):OwnOpt (w.setCell ⟨g,i,none⟩ u) base A n c o:=by
 cases o with
 | none=>exact h
 | some T=>exact ⟨h.1.box hb h2 i u,h.2⟩
def OptsIn (w:World) (base:Nat) (vs:List Value) (l:List (Option Txt)) (k:Nat):Prop:=∀ i,i < k→∃ Ai ni ci,vs[i]?=some (.slice Ai ni ci)∧OwnOpt w base Ai ni ci (l.getD i none)
theorem OptsIn.below {w w':World} {base:Nat} {vs:List Value} {l:List (Option Txt)} {k:Nat} (h:OptsIn w base vs l k) (hb:Below w.heap.size w w'):OptsIn w' base vs l k:=fun i hi=>by
 obtain ⟨Ai,ni,ci,e,ho⟩:=h i hi
 exact ⟨Ai,ni,ci,e,ho.below hb⟩
theorem OptsIn.put {w:World} {base g:Nat} {vs:List Value} {l:List (Option Txt)} {k:Nat} (h:OptsIn w base vs l k) (hb:Blk w g 42 vs) (hk:k < vs.length) {A:Option Addr} {n c:Nat} (ho:OwnOpt w base A n c (l.getD k none)):OptsIn (w.setCell ⟨g,k,none⟩ (.slice A n c)) base (vs.set k (.slice A n c)) l (k + 1):=fun i hi=>by
 by_cases e:i=k
 ·subst e
  exact ⟨A,n,c,by rw [List.getElem?_set_self hk],ho.box hb (by decide) _ _⟩
 ·obtain ⟨Ai,ni,ci,e1,h1⟩:=h i (by omega)
  exact ⟨Ai,ni,ci,by rw [List.getElem?_set_ne (fun h=>e h.symm)];exact e1,h1.box hb (by decide) _ _⟩
theorem OptsIn.opts {w:World} {base g n:Nat} {vs:List Value} {l:List (Option Txt)} (h:OptsIn w base vs l n) (hb:Blk w g 42 vs) (hn:n≤maxLen) (hl:l.length=n):Opts w (some ⟨g,0,none⟩) n n l :=
 ⟨hl,Nat.le_refl _,hn,fun i hi=>by
  obtain ⟨Ai,ni,ci,e,ho⟩:=h i hi
  exact ⟨g,0,Ai,ni,ci,rfl,hb.lt,by rw [Nat.zero_add,hb.cell i];exact e,ho.opt⟩⟩
theorem opts_info:(Tryz.prog.info? 42).map (fun i=>(i.zero,i.size,i.bytes))=some (some (.slice none 0 0),1,24):=by kernel_rfl
theorem make_opts (n:Nat) (hn:n≤1000) (w:World) :
  (Instr.makeSlice 103 (.int .i64 (n:Int)) (.int .i64 (n:Int))).run Tryz.prog w=.ok (.slice (some ⟨w.heap.size,0,none⟩) n n) (w.alloc (.cells (List.replicate n (.slice none 0 0)).toArray 42)):=by
 obtain ⟨i0,hi0,hz0,hz1,hz2⟩:=info_parts opts_info
 have hml:(1000:Nat)≤maxLen:=by decide
 exact run_make1 (P:=Tryz.prog) 103 42 i0 _ Tryz.underlying103 hi0 hz0 hz1 rfl n (by rw [hz2];omega) (by omega) w
theorem sectors_no (A:Option Addr) (n c:Nat) (A':Option Addr) (n' c':Nat) (S:List Sec) (C:List Pnd) (at_ wd:Int) (w:World) (hq:Dsk w A n c A' n' c' S C) (hs:SmallD S C) (hE:cellE S C at_ wd≠0) :
  Calls Tryz.prog 121 #[diskV A n c A' n' c',.int .i64 at_,.int .i64 wd] w fun e w'=>e=.returned (.tuple #[.slice none 0 0,.int .i64 (cellE S C at_ wd)])∧Below w.heap.size w w':=by
 have hbel:Below w.heap.size w (w.alloc (.cells #[.slice A n c,.slice A' n' c'] 25)):=(Below.refl _ _).alloc (Nat.le_refl _) _
 have x:=DBox.new hq
 have hln:=hq.secs.len
 have hsm:=hs.secs
 obtain ⟨w1,hW⟩:∃ x:World,x=w.alloc (.cells #[.slice A n c,.slice A' n' c'] 25):=⟨_,rfl⟩
 rw [← hW] at hbel x
 have K:=dsk_does.check A n c A' n' c' S C w1 x.dsk hs
 have X:=Lh x
 have B:=Lh hbel
 have B0:=Lh hbel
 obtain ⟨c0,c1⟩:=x.cells
 by_cases hm:mayD S C=true
 ·have hck:chkD S C=0:=by unfold chkD;rw [if_pos hm]
  have hce:cellE S C at_ wd=2:=by unfold cellE at hE ⊢;rw [if_pos hm] at hE ⊢;split at hE;exact absurd rfl hE;rename_i h;rw [if_neg h]
  rw [hce]
  have hno:¬ (1≤wd∧wd≤4∧0≤at_∧at_ + 2 * wd≤(n:Int)):=by intro h;unfold cellE at hE;rw [if_pos hm,hln,if_pos h] at hE;exact hE rfl
  rw [hck] at K
  have K:=Lh K
  have hn100:n≤300:=by omega
  clear hbel x hq hs hsm hln hm hck hce hE
  by_cases h1:wd < 1
  ·skip
   clear hno
   go_enter Tryz.func121,Tryz.ntmps121
   go_wp2_with fail
   rw [← hW]
   refine K.out.mono ?_
   rintro e w2 ⟨rfl,hb⟩
   have B:=Lh (B.out.trans (hb.mono B.out.size))
   obtain ⟨c0,c1⟩:=(X.out.below hb).cells
   clear hb hW
   go_wp2
   go_ret2
   exact ⟨rfl,B.out⟩
  ·by_cases h2:4 < wd
   ·skip
    clear hno
    go_enter Tryz.func121,Tryz.ntmps121
    go_wp2_with fail
    rw [← hW]
    refine K.out.mono ?_
    rintro e w2 ⟨rfl,hb⟩
    have B:=Lh (B.out.trans (hb.mono B.out.size))
    obtain ⟨c0,c1⟩:=(X.out.below hb).cells
    clear hb hW
    go_wp2
    go_ret2
    exact ⟨rfl,B.out⟩
   ·have hw2:wrap64 (2 * wd)=2 * wd:=by unfold wrap64;omega
    by_cases h3:at_ < 0
    ·skip
     clear hno
     go_enter Tryz.func121,Tryz.ntmps121
     go_wp2_with fail
     rw [← hW]
     refine K.out.mono ?_
     rintro e w2 ⟨rfl,hb⟩
     have B:=Lh (B.out.trans (hb.mono B.out.size))
     obtain ⟨c0,c1⟩:=(X.out.below hb).cells
     clear hb hW
     go_wp2
     go_ret2
     exact ⟨rfl,B.out⟩
    ·have h4:(n:Int) - 2 * wd < at_:=by omega
     have hw3:wrap64 ((n:Int) - 2 * wd)=(n:Int) - 2 * wd:=by unfold wrap64;omega
     clear hno
     go_enter Tryz.func121,Tryz.ntmps121
     go_wp2_with fail
     rw [← hW]
     refine K.out.mono ?_
     rintro e w2 ⟨rfl,hb⟩
     have B:=Lh (B.out.trans (hb.mono B.out.size))
     obtain ⟨c0,c1⟩:=(X.out.below hb).cells
     clear hb hW
     go_wp2
     go_ret2
     exact ⟨rfl,B.out⟩
 ·have hck:chkD S C=8:=by unfold chkD;rw [if_neg hm]
  have hce:cellE S C at_ wd=8:=by unfold cellE;rw [if_neg hm]
  rw [hce]
  rw [hck] at K
  have K:=Lh K
  clear hbel x hq hs hsm hln hm hck hce hE
  go_enter Tryz.func121,Tryz.ntmps121
  go_wp2_with fail
  rw [← hW]
  refine K.out.mono ?_
  rintro e w2 ⟨rfl,hb⟩
  have B:=Lh (B.out.trans (hb.mono B.out.size))
  clear hb hW c0 c1
  go_wp2
  go_ret2
  exact ⟨rfl,B.out⟩
theorem sectors_ok (A:Option Addr) (n c:Nat) (A':Option Addr) (n' c':Nat) (S:List Sec) (C:List Pnd) (a m:Nat) (w:World) (hq:Dsk w A n c A' n' c' S C) (hs:SmallD S C) (hm:mayD S C=true) (hm1:1≤m) (hm4:m≤4) (han:a + 2 * m≤S.length) :
  Calls Tryz.prog 121 #[diskV A n c A' n' c',.int .i64 (a:Int),.int .i64 (m:Int)] w fun e w'=>∃ g,e=.returned (.tuple #[.slice (some ⟨g,0,none⟩) (2 * m) (2 * m),.int .i64 0])∧Opts w' (some ⟨g,0,none⟩) (2 * m) (2 * m) (optsOf S C a (2 * m))∧Below w.heap.size w w':=by
 have hbel:Below w.heap.size w (w.alloc (.cells #[.slice A n c,.slice A' n' c'] 25)):=(Below.refl _ _).alloc (Nat.le_refl _) _
 have x:=DBox.new hq
 have hln:=hq.secs.len
 have hsm:=hs.secs
 obtain ⟨w1,hW⟩:∃ x:World,x=w.alloc (.cells #[.slice A n c,.slice A' n' c'] 25):=⟨_,rfl⟩
 rw [← hW] at hbel x
 have K:=dsk_does.check A n c A' n' c' S C w1 x.dsk hs
 have X:=Lh x
 have B:=Lh hbel
 have B0:=Lh hbel
 obtain ⟨c0,c1⟩:=x.cells
 have hck:chkD S C=0:=by unfold chkD;rw [if_pos hm]
 rw [hck] at K
 have K:=Lh K
 rw [hln] at han
 have hn100:n≤300:=by omega
 have RD:=Lh (fun (k:Nat) wx (hx:Below w1.heap.size w1 wx)=>pread_nil A n c A' n' c' S C ((a:Int) + (k:Int)) wx (x.below hx).dsk hs)
 have hS:∀ s ∈ S,∀ z ∈ s.2,isByte z:=hq.secs.byte
 have hC:∀ p ∈ C,∀ z ∈ p.2,isByte z:=hq.pnds.byte
 have GD:=Lh (fun (k:Int) (h:rdE S C k=0)=>rd_good h hS hC)
 obtain ⟨V0,hV0⟩:∃ V:List Value,V=List.replicate (2 * m) (.slice none 0 0):=⟨_,rfl⟩
 have hmk:∀ w:World,(Instr.makeSlice 103 (.int .i64 (2 * (m:Int))) (.int .i64 (2 * (m:Int)))).run Tryz.prog w=.ok (.slice (some ⟨w.heap.size,0,none⟩) (2 * m) (2 * m)) (w.alloc (.cells V0.toArray 42)):=fun w=>by
  rw [hV0]
  have h:=make_opts (2 * m) (by omega) w
  rwa [show ((2 * m:Nat):Int)=2 * (m:Int) from by omega] at h
 have HV0:=Lh hV0
 have hw1:¬ (m:Int) < 1:=by omega
 have hw4:¬ (4:Int) < (m:Int):=by omega
 have ha0:¬ (a:Int) < 0:=by omega
 have hna:¬ (n:Int) - 2 * (m:Int) < (a:Int):=by omega
 have hwr:wrap64 (2 * (m:Int))=2 * (m:Int):=by unfold wrap64;omega
 have hwn:wrap64 ((n:Int) - 2 * (m:Int))=(n:Int) - 2 * (m:Int):=by unfold wrap64;omega
 have HM8:=Lh (show 2 * m≤8 by omega)
 have HA:=Lh (show a≤300 by omega)
 clear hbel x hq hs hsm hln hm hck hS hC hV0
 go_enter Tryz.func121,Tryz.ntmps121
 go_wp2_with fail
 rw [← hW]
 refine K.out.mono ?_
 rintro e w2 ⟨rfl,hb⟩
 have B:=Lh (B.out.trans (hb.mono B.out.size))
 have HB1:=Lh hb
 obtain ⟨c0,c1⟩:=(X.out.below hb).cells
 clear hb hW
 go_wp2
 have y:=Blk.new w2 42 V0
 have hb3:Below w2.heap.size w2 (w2.alloc (.cells V0.toArray 42)):=(Below.refl _ _).alloc (Nat.le_refl _) _
 obtain ⟨G,hG⟩:∃ G,G=w2.heap.size:=⟨_,rfl⟩
 rw [← hG] at y ⊢
 obtain ⟨w3,hV⟩:∃ x:World,x=w2.alloc (.cells V0.toArray 42):=⟨_,rfl⟩
 rw [← hV] at y hb3 ⊢
 have HGW:=Lh (show w1.heap.size≤G by rw [hG];exact HB1.out.size)
 have HGw:=Lh (show w.heap.size≤G by rw [hG];exact B.out.size)
 have B1:=Lh (HB1.out.trans (hb3.mono HB1.out.size))
 have Y:=Lh y
 clear y hb3 hV hG HB1 B K c0 c1 hmk hw1 hw4 ha0 hna
 go_loopw [39,10] (fun i _ wr=>∃ (k:Nat) (vs:List Value),k≤2 * m∧i=.int .i64 k∧vs.length=2 * m∧Blk wr G 42 vs∧OptsIn wr G vs (optsOf S C a (2 * m)) k∧Below w1.heap.size w1 wr) (fun i _ _=>2 * m - (intOf i).toNat)
 case atStart=>exact ⟨0,V0,Nat.zero_le _,rfl,by rw [HV0.out,List.length_replicate],Y.out,fun i hi=>absurd hi (Nat.not_lt_zero _),B1.out⟩
 case round =>
  obtain ⟨k,vs,hk,rfl,hvl,hy,hin,hb⟩:=hrel
  have hm8:=HM8.out
  have ha100:=HA.out
  by_cases hk2:k < 2 * m
  ·have hki:(k:Int) < 2 * (m:Int):=by omega
   have hwa:wrap64 ((a:Int) + (k:Int))=(a:Int) + (k:Int):=by unfold wrap64;omega
   have R:=Lh (RD.out k wr hb)
   obtain ⟨c0,c1⟩:=(X.out.below hb).cells
   have HY:=Lh hy
   have HIN:=Lh hin
   have HB:=Lh hb
   have HVL:=Lh hvl
   clear hy hin hb hvl
   go_wp2_with fail
   refine R.out.mono ?_
   rintro e w4 ⟨A4,c4,rfl,hown,hb4,hnil⟩
   have y4:=HY.out.below hb4 HY.out.lt
   have ho:OwnOpt w4 G A4 (rdB S C ((a:Int) + (k:Int))).length c4 ((optsOf S C a (2 * m)).getD k none):=by
    rw [optsOf_get S C a hk2]
    unfold optAt
    by_cases h0:rdE S C ((a:Int) + (k:Int))=0
    ·rw [if_pos h0]
     obtain ⟨h32,hby⟩:=GD.out _ h0
     exact ⟨(OwnTxt.of hown).lower (Nat.le_of_lt HY.out.lt),h32,hby⟩
    ·rw [if_neg h0]
     obtain ⟨rfl,rfl⟩:=hnil h0
     have hz:(rdB S C ((a:Int) + (k:Int)))=[]:=if_neg h0
     exact ⟨rfl,by rw [hz];rfl,rfl⟩
   obtain ⟨v4,hv4⟩:∃ v,vs[k]?=some v:=⟨_,geE (by rw [HVL.out];exact hk2)⟩
   have q0:=(y4.cell k).trans hv4
   have q1:=y4.free k
   have HO:=Lh ho
   have Y4:=Lh y4
   have IN4:=Lh (HIN.out.below hb4)
   have HB4:=Lh (HB.out.trans (hb4.mono HB.out.size))
   obtain ⟨n4,hn4⟩:∃ x,x=(rdB S C ((a:Int) + (k:Int))).length:=⟨_,rfl⟩
   rw [← hn4] at HO ⊢
   clear hown hb4 hnil ho hv4 y4 R c0 c1 hn4
   go_wp2
   go_roundw
   case rel=>exact ⟨k + 1,vs.set k (.slice A4 n4 c4),by omega,by go_num,by rw [List.length_set];exact HVL.out,Y4.out.set k _,IN4.out.put Y4.out (by rw [HVL.out];exact hk2) HO.out,HB4.out.setCell (p:=⟨G,k,none⟩) HGW.out _⟩
   all_goals (try case measure=>simp [intOf];omega)
  ·obtain rfl:k=2 * m:=by omega
   have hki:¬ (2:Int) * (m:Int) < 2 * (m:Int):=by omega
   have HOP:=Lh (hin.opts hy (Nat.le_trans HM8.out (by decide)) (optsOf_length _ _ _ _))
   have HF:=Lh ((show Below w.heap.size w w1 from B0.out).trans (hb.mono B0.out.size))
   clear hy hin hb hvl
   go_wp2
   go_ret2
   exact ⟨G,rfl,HOP.out,HF.out⟩
theorem cellE_zero {S:List Sec} {C:List Pnd} {at_ wd:Int} (h:cellE S C at_ wd=0):mayD S C=true∧∃ a m:Nat,at_=a∧wd=m∧1≤m∧m≤4∧a + 2 * m≤S.length:=by
 unfold cellE at h
 split at h
 ·rename_i hm
  split at h
  ·rename_i h1
   exact ⟨hm,at_.toNat,wd.toNat,by omega,by omega,by omega,by omega,by omega⟩
  ·cases h
 ·cases h
abbrev Bnd:=Int × Int × Int
def okBnd (b:Bnd):Prop:=b.2.1≤b.1∧b.1≤b.2.2
def Bnds (w:World) (g n:Nat) (bs:List Bnd):Prop:=bs.length=n∧g < w.heap.size∧∀ j,j < n→w.cell? ⟨g,j * 3,none⟩=some (.int .i64 (bs.getD j (0,0,0)).1)∧w.cell? ⟨g,j * 3 + 1,none⟩=some (.int .i64 (bs.getD j (0,0,0)).2.1)∧w.cell? ⟨g,j * 3 + 2,none⟩=some (.int .i64 (bs.getD j (0,0,0)).2.2)
theorem Bnds.below {w w':World} {g n:Nat} {bs:List Bnd} (h:Bnds w g n bs) (hb:Below w.heap.size w w'):Bnds w' g n bs :=
 ⟨h.1,Nat.lt_of_lt_of_le h.2.1 hb.size,fun j hj=>by obtain ⟨a,b,c⟩:=h.2.2 j hj;exact ⟨(hb.cell h.2.1).trans a,(hb.cell h.2.1).trans b,(hb.cell h.2.1).trans c⟩⟩
theorem within_any (g n:Nat) (bs:List Bnd) (w:World) (h:Bnds w g n bs) (hn:n≤100) (r:Bool) (hy:(∀ j,j < n→okBnd (bs.getD j (0,0,0)))→r=true) (hno:∀ j,j < n→¬ okBnd (bs.getD j (0,0,0))→r=false) :
  Calls Tryz.prog 61 #[.slice (some ⟨g,0,none⟩) n n] w fun e w'=>e=.returned (.bool r)∧Below w.heap.size w w':=by
 have H:=Lh h
 have HY:=Lh hy
 have HN:=Lh hno
 clear h hy hno
 go_enter Tryz.func61,Tryz.ntmps61
 go_wp2
 go_loopw [7] (fun i wr=>∃ k:Nat,k≤n∧i=.int .i64 k∧(∀ y,y < k→okBnd (bs.getD y (0,0,0)))∧Below w.heap.size w wr) (fun i _=>n - (intOf i).toNat)
 case atStart=>exact ⟨0,Nat.zero_le _,rfl,fun y hy=>by omega,Below.refl _ _⟩
 case round =>
  obtain ⟨k,hk,rfl,hall,hbel⟩:=hrel
  have ALL:=Lh hall
  have BEL:=Lh hbel
  by_cases hkn:k < n
  ·obtain ⟨c0,c1,c2⟩:=(H.out.below hbel).2.2 k hkn
   clear hall hbel
   obtain ⟨b,hb⟩:∃ b,b=bs.getD k (0,0,0):=⟨_,rfl⟩
   rw [← hb] at c0 c1 c2
   obtain ⟨x,l,m⟩:=b
   simp only at c0 c1 c2
   have HB:=Lh hb
   clear hb
   have y:=Blk.new wr 133 [.int .i64 x,.int .i64 l,.int .i64 m]
   have d0:=y.cell 0
   have d1:=y.cell 1
   have d2:=y.cell 2
   simp only [gcZ,gcS] at d0 d1 d2
   have B2:=Lh (BEL.out.alloc BEL.out.size (.cells #[.int .i64 x,.int .i64 l,.int .i64 m] 133))
   clear y
   by_cases h1:x < l
   ·have HR:=Lh (HN.out k hkn (by rw [← HB.out];unfold okBnd;simp only;omega))
    go_wp2
    go_ret
    rw [HR.out]
    exact ⟨rfl,B2.out⟩
   ·by_cases h2:m < x
    ·have HR:=Lh (HN.out k hkn (by rw [← HB.out];unfold okBnd;simp only;omega))
     go_wp2
     go_ret
     rw [HR.out]
     exact ⟨rfl,B2.out⟩
    ·have HO:=Lh (show okBnd (bs.getD k (0,0,0)) by rw [← HB.out];unfold okBnd;simp only;omega)
     go_wp2
     go_roundw
     case rel =>
      refine ⟨k + 1,by omega,by go_num,fun y hy=>?_,B2.out⟩
      rcases Nat.lt_or_ge y k with h | h
      ·exact ALL.out y h
      ·obtain rfl:y=k:=by omega
       exact HO.out
     case measure=>simp [intOf];omega
  ·obtain rfl:k=n:=by omega
   have HR:=Lh (HY.out fun y hy=>ALL.out y hy)
   clear hall hbel
   go_wp2
   go_ret
   rw [HR.out]
   exact ⟨rfl,BEL.out⟩
theorem bnds6 (w:World) (g:Nat) (t:TypeId) (a0 a1 a2 b0 b1 b2 c0 c1 c2 d0 d1 d2 e0 e1 e2 f0 f1 f2:Int) (hg:g=w.heap.size) :
  Bnds (w.alloc (.cells #[.int .i64 a0,.int .i64 a1,.int .i64 a2,.int .i64 b0,.int .i64 b1,.int .i64 b2,.int .i64 c0,.int .i64 c1,.int .i64 c2,.int .i64 d0,.int .i64 d1,.int .i64 d2,.int .i64 e0,.int .i64 e1,.int .i64 e2,.int .i64 f0,.int .i64 f1,.int .i64 f2] t)) g 6 [(a0,a1,a2),(b0,b1,b2),(c0,c1,c2),(d0,d1,d2),(e0,e1,e2),(f0,f1,f2)]:=by
 subst hg
 have y:=Blk.new w t [.int .i64 a0,.int .i64 a1,.int .i64 a2,.int .i64 b0,.int .i64 b1,.int .i64 b2,.int .i64 c0,.int .i64 c1,.int .i64 c2,.int .i64 d0,.int .i64 d1,.int .i64 d2,.int .i64 e0,.int .i64 e1,.int .i64 e2,.int .i64 f0,.int .i64 f1,.int .i64 f2]
 refine ⟨rfl,y.lt,fun j hj=>?_⟩
 match j,hj with
 | 0,_=>exact ⟨y.cell 0,y.cell 1,y.cell 2⟩
 | 1,_=>exact ⟨y.cell 3,y.cell 4,y.cell 5⟩
 | 2,_=>exact ⟨y.cell 6,y.cell 7,y.cell 8⟩
 | 3,_=>exact ⟨y.cell 9,y.cell 10,y.cell 11⟩
 | 4,_=>exact ⟨y.cell 12,y.cell 13,y.cell 14⟩
 | 5,_=>exact ⟨y.cell 15,y.cell 16,y.cell 17⟩
theorem bnds2 (w:World) (g:Nat) (t:TypeId) (a0 a1 a2 b0 b1 b2:Int) (hg:g=w.heap.size) :
  Bnds (w.alloc (.cells #[.int .i64 a0,.int .i64 a1,.int .i64 a2,.int .i64 b0,.int .i64 b1,.int .i64 b2] t)) g 2 [(a0,a1,a2),(b0,b1,b2)]:=by
 subst hg
 have y:=Blk.new w t [.int .i64 a0,.int .i64 a1,.int .i64 a2,.int .i64 b0,.int .i64 b1,.int .i64 b2]
 refine ⟨rfl,y.lt,fun j hj=>?_⟩
 match j,hj with
 | 0,_=>exact ⟨y.cell 0,y.cell 1,y.cell 2⟩
 | 1,_=>exact ⟨y.cell 3,y.cell 4,y.cell 5⟩
theorem may_bnds (P T A M W Q L:Int) (hL:1≤P→P≤3→L=P + 2) :
  ((∀ j,j < 6→okBnd (([(P,1,3),(T,1,16),(A,L,32),(M,1,P),(W,1,4),(Q,4,64)]:List Bnd).getD j (0,0,0)))→decide (mayC P T A M W Q)=true) ∧
  (∀ j,j < 6→¬ okBnd (([(P,1,3),(T,1,16),(A,L,32),(M,1,P),(W,1,4),(Q,4,64)]:List Bnd).getD j (0,0,0))→decide (mayC P T A M W Q)=false):=by
 constructor
 ·intro h
  have h0:=h 0 (by omega)
  have h1:=h 1 (by omega)
  have h2:=h 2 (by omega)
  have h3:=h 3 (by omega)
  have h4:=h 4 (by omega)
  have h5:=h 5 (by omega)
  simp [okBnd] at h0 h1 h2 h3 h4 h5
  have:=hL h0.1 h0.2
  rw [decide_eq_true_eq]
  unfold mayC
  omega
 ·intro j hj h
  rw [decide_eq_false_iff_not]
  intro hm
  unfold mayC at hm
  have:=hL hm.1 hm.2.1
  match j,hj with
  | 0,_=>simp [okBnd] at h;omega
  | 1,_=>simp [okBnd] at h;omega
  | 2,_=>simp [okBnd] at h;omega
  | 3,_=>simp [okBnd] at h;omega
  | 4,_=>simp [okBnd] at h;omega
  | 5,_=>simp [okBnd] at h;omega
theorem pcheck_any (P T A M W Q:Int) (w:World):Calls Tryz.prog 31 #[cfgV P T A M W Q] w fun e w'=>e=.returned (.int .i64 (chkC P T A M W Q))∧Below w.heap.size w w':=by
 obtain ⟨x,hbel⟩:=box_cfg w P T A M W Q
 obtain ⟨c0,c1,c2,c3,c4,c5⟩:=x.cfg
 have BEL:=Lh hbel
 clear x hbel
 obtain ⟨L,hL⟩:∃ L,IntKind.i64.wrap (P + 2)=L:=⟨_,rfl⟩
 have hmb:=may_bnds P T A M W Q L (fun h1 h2=>by rw [← hL];exact wrap_sm (by omega) (by omega))
 have HY:=Lh hmb.1
 have HN:=Lh hmb.2
 have hck:chkC P T A M W Q=if decide (mayC P T A M W Q) then 0 else 8:=by unfold chkC;by_cases h:mayC P T A M W Q <;> simp [h]
 rw [hck]
 obtain ⟨r,hr⟩:∃ r,r=decide (mayC P T A M W Q):=⟨_,rfl⟩
 rw [← hr] at HY HN ⊢
 clear hck hmb hr
 obtain ⟨w1,hw1⟩:∃ x,x=w.alloc (.cells #[.int .i64 P,.int .i64 T,.int .i64 A,.int .i64 M,.int .i64 W,.int .i64 Q] 36):=⟨_,rfl⟩
 rw [← hw1] at BEL c0 c1 c2 c3 c4 c5
 go_enter Tryz.func31,Tryz.ntmps31
 go_upto_region 1 with fail
 rw [← hw1]
 clear hw1
 go_wp2_with fail
 refine (within_any _ 6 _ _ (bnds6 w1 _ _ P 1 3 T 1 16 A L 32 M 1 P W 1 4 Q 4 64 rfl) (by omega) r HY.out HN.out).mono ?_
 rintro e w2 ⟨rfl,hb⟩
 have B2:=Lh ((BEL.out.alloc BEL.out.size _).trans (hb.mono (by have:=BEL.out.size;simp;omega)))
 clear hb
 cases r with
 | true =>
  go_wp2
  go_ret
  exact ⟨rfl,B2.out⟩
 | false =>
  go_wp2
  go_ret
  exact ⟨rfl,B2.out⟩
theorem ppages_any (P T A M W Q:Int) (w:World) (h:1≤T) (h2:T≤16):Calls Tryz.prog 108 #[cfgV P T A M W Q] w fun e w'=>e=.returned (.int .i64 (pagC T))∧Below w.heap.size w w':=by
 obtain ⟨x,hbel⟩:=box_cfg w P T A M W Q
 obtain ⟨c0,c1,c2,c3,c4,c5⟩:=x.cfg
 have BEL:=Lh hbel
 clear x hbel
 have hq:(T + 8 - 1).tdiv 8=pagC T:=by
  rw [Int.tdiv_eq_ediv_of_nonneg (by omega)];unfold pagC;split <;> omega
 have hq2:(T + 8 - 1) / 8=pagC T:=by unfold pagC;split <;> omega
 have hq3:(T + 7) / 8=pagC T:=by unfold pagC;split <;> omega
 obtain ⟨g,hg⟩:∃ g,g=pagC T:=⟨_,rfl⟩
 have hg2:1≤g∧g≤2:=by rcases pagC_or T with p | p <;> omega
 rw [← hg] at hq hq2 hq3 ⊢
 clear hg
 go_enter Tryz.func108,Tryz.ntmps108
 go_wp2
 go_ret
 exact ⟨rfl,BEL.out⟩
abbrev partV (k f o t s:Int):Value:=.agg #[.int .u8 k,.int .i64 f,.int .i64 o,.int .i64 t,.int .i64 s]
theorem box_part (w:World) (k f o t s:Int) :
  Blk (w.alloc (.cells #[.int .u8 k,.int .i64 f,.int .i64 o,.int .i64 t,.int .i64 s] 135)) w.heap.size 135 [.int .u8 k,.int .i64 f,.int .i64 o,.int .i64 t,.int .i64 s] ∧
  Below w.heap.size w (w.alloc (.cells #[.int .u8 k,.int .i64 f,.int .i64 o,.int .i64 t,.int .i64 s] 135)) :=
 ⟨Blk.new w 135 [.int .u8 k,.int .i64 f,.int .i64 o,.int .i64 t,.int .i64 s],(Below.refl _ _).alloc (Nat.le_refl _) _⟩
theorem Blk.part {w:World} {g:Nat} {t:TypeId} {k f o th s:Int} (h:Blk w g t [.int .u8 k,.int .i64 f,.int .i64 o,.int .i64 th,.int .i64 s]) :
  w.cell? ⟨g,0,none⟩=some (.int .u8 k)∧w.cell? ⟨g,1,none⟩=some (.int .i64 f)∧w.cell? ⟨g,2,none⟩=some (.int .i64 o)∧w.cell? ⟨g,3,none⟩=some (.int .i64 th)∧w.cell? ⟨g,4,none⟩=some (.int .i64 s) :=
 ⟨h.cell 0,h.cell 1,h.cell 2,h.cell 3,h.cell 4⟩
def secP (f t s o n:Int):Int:=f + (o * t + n) * s
theorem sector_any (k f o t s a n:Int) (w:World) (h1:-10000≤a * t∧a * t≤10000) (h2:-10000≤n∧n≤10000) (h3:-50000≤(a * t + n) * s∧(a * t + n) * s≤50000) (h4:0≤f∧f≤1000):Calls Tryz.prog 109 #[partV k f o t s,.int .i64 a,.int .i64 n] w fun e w'=>e=.returned (.int .i64 (secP f t s a n))∧Below w.heap.size w w':=by
 obtain ⟨x,hbel⟩:=box_part w k f o t s
 obtain ⟨c0,c1,c2,c3,c4⟩:=x.part
 have BEL:=Lh hbel
 unfold secP
 have m1:IntKind.i64.wrap (a * t)=a * t:=wrap_sm (by omega) (by omega)
 have m2:IntKind.i64.wrap (a * t + n)=a * t + n:=wrap_sm (by omega) (by omega)
 have m3:IntKind.i64.wrap ((a * t + n) * s)=(a * t + n) * s:=wrap_sm (by omega) (by omega)
 have m4:IntKind.i64.wrap (f + (a * t + n) * s)=f + (a * t + n) * s:=wrap_sm (by omega) (by omega)
 clear x hbel h1 h2 h3 h4
 go_enter Tryz.func109,Tryz.ntmps109
 go_wp2
 go_ret
 exact ⟨rfl,BEL.out⟩
theorem end_any (k f o t s:Int) (w:World) (h1:-10000≤o * t∧o * t≤10000) (h3:-50000≤(o * t + 0) * s∧(o * t + 0) * s≤50000) (h4:0≤f∧f≤1000):Calls Tryz.prog 63 #[partV k f o t s] w fun e w'=>e=.returned (.int .i64 (secP f t s o 0))∧Below w.heap.size w w':=by
 obtain ⟨x,hbel⟩:=box_part w k f o t s
 obtain ⟨c0,c1,c2,c3,c4⟩:=x.part
 have BEL:=Lh hbel
 have SE:=Lh (fun w':World=>sector_any k f o t s o 0 w' h1 (by omega) h3 h4)
 obtain ⟨v,hv⟩:∃ v,v=secP f t s o 0:=⟨_,rfl⟩
 rw [← hv] at SE ⊢
 clear x hbel h1 h3 h4 hv
 go_enter Tryz.func63,Tryz.ntmps63
 go_wp2_with fail
 refine (SE.out _).mono ?_
 rintro e w2 ⟨rfl,hb⟩
 have B2:=Lh (BEL.out.trans (hb.mono BEL.out.size))
 clear hb c0 c1 c2 c3 c4
 go_wp2
 go_ret
 exact ⟨rfl,B2.out⟩
end Go.Proofs.YtifgcfepbenpjaaGreat
