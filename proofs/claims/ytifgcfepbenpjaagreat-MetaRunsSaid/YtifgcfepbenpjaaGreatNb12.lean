/- Texts of layers 1 to 12, joined. -/
import Derived.Test.YtifgcfepbenpjaaGreatNb8
import Derived.Test.YtifgcfepbenpjaaGreatNb11
import Derived.BigQuiet
set_option maxRecDepth 100000
set_option maxHeartbeats 12800000
set_option linter.unusedVariables false
namespace Go.Proofs.YtifgcfepbenpjaaGreat
open Go.RowKit
def cellE (S:List Sec) (C:List Pnd) (at_ w:Int):Int:=if mayD S C=true then (if 1≤w∧w≤4∧0≤at_∧at_ + 2 * w≤(S.length:Int) then 0 else 2) else 8
def optAt (S:List Sec) (C:List Pnd) (a:Int):Option Txt:=if rdE S C a=0 then some (rdB S C a) else none
def optsOf (S:List Sec) (C:List Pnd) (at_:Int) (n:Nat):List (Option Txt):=(List.range n).map fun i:Nat=>optAt S C (at_ + (i:Int))
theorem optsOf_length (S:List Sec) (C:List Pnd) (at_:Int) (n:Nat):(optsOf S C at_ n).length=n:=by simp [optsOf]
theorem optsOf_get (S:List Sec) (C:List Pnd) (at_:Int) {n i:Nat} (h:i < n):(optsOf S C at_ n).getD i none=optAt S C (at_ + (i:Int)):=by
 rw [gtD,geE (by rw [optsOf_length];exact h)]
 simp [optsOf]
theorem rd_good {S:List Sec} {C:List Pnd} {at_:Int} (h:rdE S C at_=0) (hS:∀ s ∈ S,∀ z ∈ s.2,isByte z) (hC:∀ p ∈ C,∀ z ∈ p.2,isByte z):(rdB S C at_).length=32∧∀ z ∈ rdB S C at_,isByte z:=by
 have hB:rdB S C at_=gotB S C at_:=if_pos h
 have ha:askE S C at_=0:=by
  unfold rdE at h
  split at h
  ·assumption
  ·rename_i h2;exact absurd h h2
 obtain ⟨hm,a,rfl,hal⟩:=ask_zero ha
 have hm2:=(mayD_iff _ _).1 hm
 rw [hB]
 unfold gotB
 rcases hl:lastW C (a:Int) with _ | t
 ·have hx:secAt S (a:Int) ∈ S:=by
   unfold secAt
   rw [Int.toNat_natCast,gtD,geE hal]
   exact List.getElem_mem hal
  exact ⟨(hm2.2.1 _ hx).1,hS _ hx⟩
 ·unfold lastW at hl
  rcases hf:C.reverse.find? (fun p=>decide (p.1=(a:Int))) with _ | q
  ·rw [hf] at hl;cases hl
  ·rw [hf] at hl
   injection hl with hl
   subst hl
   have hx:q ∈ C:=List.mem_reverse.1 (List.mem_of_find?_eq_some hf)
   exact ⟨(hm2.2.2 _ hx).2.2,hC _ hx⟩
def OwnOpt (w:World) (base:Nat) (A:Option Addr) (n c:Nat):Option Txt→Prop
 | none=>A=none∧n=0∧c=0
 | some T=>OwnTxt w base A n c T∧T.length=32∧∀ z ∈ T,isByte z
theorem OwnOpt.opt {w:World} {base:Nat} {A:Option Addr} {n c:Nat} {t:Option Txt} (h:OwnOpt w base A n c t):OptArg w A n c t:=by
 cases t with
 | none=>exact h
 | some T=>exact ⟨h.1.arg,h.2⟩
theorem OwnOpt.below {w w':World} {base:Nat} {A:Option Addr} {n c:Nat} {t:Option Txt} (h:OwnOpt w base A n c t) (hb:Below w.heap.size w w'):OwnOpt w' base A n c t:=by
 cases t with
 | none=>exact h
 | some T=>exact ⟨h.1.below hb,h.2⟩
theorem OwnTxt.box {w:World} {base:Nat} {A:Option Addr} {n c:Nat} {T:Txt} (h:OwnTxt w base A n c T) {g:Nat} {t:TypeId} {cs:List Value} (hb:Blk w g t cs) (h2:t≠5) (i:Nat) (u:Value):OwnTxt (w.setCell ⟨g,i,none⟩ u) base A n c T :=
 h.keep fun g' _ hu=>Below.heap_setCell w _ u g' (fun e2=>by
  subst e2
  obtain ⟨cs',hc⟩:=hu
  unfold Blk at hb
  rw [hb] at hc
  simp at hc
  exact h2 hc.2)
theorem OwnOpt.box {w:World} {base:Nat} {A:Option Addr} {n c:Nat} {o:Option Txt} (h:OwnOpt w base A n c o) {g:Nat} {t:TypeId} {cs:List Value} (hb:Blk w g t cs) (h2:t≠5) (i:Nat) (u:Value):OwnOpt (w.setCell ⟨g,i,none⟩ u) base A n c o:=by
 cases o with
 | none=>exact h
 | some T=>exact ⟨h.1.box hb h2 i u,h.2⟩
def OptsIn (w:World) (base:Nat) (vs:List Value) (l:List (Option Txt)) (k:Nat):Prop:=∀ i,i < k→∃ Ai ni ci,vs[i]?=some (.slice Ai ni ci)∧OwnOpt w base Ai ni ci (l.getD i none)
theorem OptsIn.below {w w':World} {base:Nat} {vs:List Value} {l:List (Option Txt)} {k:Nat} (h:OptsIn w base vs l k) (hb:Below w.heap.size w w'):OptsIn w' base vs l k:=fun i hi=>by
 obtain ⟨Ai,ni,ci,e,ho⟩:=h i hi
 exact ⟨Ai,ni,ci,e,ho.below hb⟩
theorem OptsIn.put {w:World} {base g:Nat} {vs:List Value} {l:List (Option Txt)} {k:Nat} (h:OptsIn w base vs l k) (hb:Blk w g 42 vs) (hk:k < vs.length) {A:Option Addr} {n c:Nat} (ho:OwnOpt w base A n c (l.getD k none)):OptsIn (w.setCell ⟨g,k,none⟩ (.slice A n c)) base (vs.set k (.slice A n c)) l (k + 1):=fun i hi=>by
 by_cases e:i=k
 ·subst e
  exact ⟨A,n,c,by rw [List.getElem?_set_self hk],ho.box hb (by decide) _ _⟩
 ·obtain ⟨Ai,ni,ci,e1,h1⟩:=h i (by omega)
  exact ⟨Ai,ni,ci,by rw [List.getElem?_set_ne (fun h=>e h.symm)];exact e1,h1.box hb (by decide) _ _⟩
theorem OptsIn.opts {w:World} {base g n:Nat} {vs:List Value} {l:List (Option Txt)} (h:OptsIn w base vs l n) (hb:Blk w g 42 vs) (hn:n≤maxLen) (hl:l.length=n):Opts w (some ⟨g,0,none⟩) n n l :=
 ⟨hl,Nat.le_refl _,hn,fun i hi=>by
  obtain ⟨Ai,ni,ci,e,ho⟩:=h i hi
  exact ⟨g,0,Ai,ni,ci,rfl,hb.lt,by rw [Nat.zero_add,hb.cell i];exact e,ho.opt⟩⟩
theorem opts_info:(Tryz.prog.info? 42).map (fun i=>(i.zero,i.size,i.bytes))=some (some (.slice none 0 0),1,24):=by kernel_rfl
theorem make_opts (n:Nat) (hn:n≤1000) (w:World) :
  (Instr.makeSlice 103 (.int .i64 (n:Int)) (.int .i64 (n:Int))).run Tryz.prog w=.ok (.slice (some ⟨w.heap.size,0,none⟩) n n) (w.alloc (.cells (List.replicate n (.slice none 0 0)).toArray 42)):=by
 obtain ⟨i0,hi0,hz0,hz1,hz2⟩:=info_parts opts_info
 have hml:(1000:Nat)≤maxLen:=by decide
 exact run_make1 (P:=Tryz.prog) 103 42 i0 _ Tryz.underlying103 hi0 hz0 hz1 rfl n (by rw [hz2];omega) (by omega) w
theorem sectors_no (A:Option Addr) (n c:Nat) (A':Option Addr) (n' c':Nat) (S:List Sec) (C:List Pnd) (at_ wd:Int) (w:World) (hq:Dsk w A n c A' n' c' S C) (hs:SmallD S C) (hE:cellE S C at_ wd≠0) :
  Calls Tryz.prog 121 #[diskV A n c A' n' c',.int .i64 at_,.int .i64 wd] w fun e w'=>e=.returned (.tuple #[.slice none 0 0,.int .i64 (cellE S C at_ wd)])∧Below w.heap.size w w':=by
 have hbel:Below w.heap.size w (w.alloc (.cells #[.slice A n c,.slice A' n' c'] 25)):=(Below.refl _ _).alloc (Nat.le_refl _) _
 have x:=DBox.new hq
 have hln:=hq.secs.len
 have hsm:=hs.secs
 obtain ⟨w1,hW⟩:∃ x:World,x=w.alloc (.cells #[.slice A n c,.slice A' n' c'] 25):=⟨_,rfl⟩
 rw [← hW] at hbel x
 have K:=dsk_does.check A n c A' n' c' S C w1 x.dsk hs
 have X:=Lh x
 have B:=Lh hbel
 have B0:=Lh hbel
 obtain ⟨c0,c1⟩:=x.cells
 by_cases hm:mayD S C=true
 ·have hck:chkD S C=0:=by unfold chkD;rw [if_pos hm]
  have hce:cellE S C at_ wd=2:=by unfold cellE at hE ⊢;rw [if_pos hm] at hE ⊢;split at hE;exact absurd rfl hE;rename_i h;rw [if_neg h]
  rw [hce]
  have hno:¬ (1≤wd∧wd≤4∧0≤at_∧at_ + 2 * wd≤(n:Int)):=by intro h;unfold cellE at hE;rw [if_pos hm,hln,if_pos h] at hE;exact hE rfl
  rw [hck] at K
  have K:=Lh K
  have hn100:n≤300:=by omega
  clear hbel x hq hs hsm hln hm hck hce hE
  by_cases h1:wd < 1
  ·skip
   clear hno
   go_enter Tryz.func121,Tryz.ntmps121
   go_wp2_with fail
   rw [← hW]
   refine K.out.mono ?_
   rintro e w2 ⟨rfl,hb⟩
   have B:=Lh (B.out.trans (hb.mono B.out.size))
   obtain ⟨c0,c1⟩:=(X.out.below hb).cells
   clear hb hW
   go_wp2
   go_ret2
   exact ⟨rfl,B.out⟩
  ·by_cases h2:4 < wd
   ·skip
    clear hno
    go_enter Tryz.func121,Tryz.ntmps121
    go_wp2_with fail
    rw [← hW]
    refine K.out.mono ?_
    rintro e w2 ⟨rfl,hb⟩
    have B:=Lh (B.out.trans (hb.mono B.out.size))
    obtain ⟨c0,c1⟩:=(X.out.below hb).cells
    clear hb hW
    go_wp2
    go_ret2
    exact ⟨rfl,B.out⟩
   ·have hw2:wrap64 (2 * wd)=2 * wd:=by unfold wrap64;omega
    by_cases h3:at_ < 0
    ·skip
     clear hno
     go_enter Tryz.func121,Tryz.ntmps121
     go_wp2_with fail
     rw [← hW]
     refine K.out.mono ?_
     rintro e w2 ⟨rfl,hb⟩
     have B:=Lh (B.out.trans (hb.mono B.out.size))
     obtain ⟨c0,c1⟩:=(X.out.below hb).cells
     clear hb hW
     go_wp2
     go_ret2
     exact ⟨rfl,B.out⟩
    ·have h4:(n:Int) - 2 * wd < at_:=by omega
     have hw3:wrap64 ((n:Int) - 2 * wd)=(n:Int) - 2 * wd:=by unfold wrap64;omega
     clear hno
     go_enter Tryz.func121,Tryz.ntmps121
     go_wp2_with fail
     rw [← hW]
     refine K.out.mono ?_
     rintro e w2 ⟨rfl,hb⟩
     have B:=Lh (B.out.trans (hb.mono B.out.size))
     obtain ⟨c0,c1⟩:=(X.out.below hb).cells
     clear hb hW
     go_wp2
     go_ret2
     exact ⟨rfl,B.out⟩
 ·have hck:chkD S C=8:=by unfold chkD;rw [if_neg hm]
  have hce:cellE S C at_ wd=8:=by unfold cellE;rw [if_neg hm]
  rw [hce]
  rw [hck] at K
  have K:=Lh K
  clear hbel x hq hs hsm hln hm hck hce hE
  go_enter Tryz.func121,Tryz.ntmps121
  go_wp2_with fail
  rw [← hW]
  refine K.out.mono ?_
  rintro e w2 ⟨rfl,hb⟩
  have B:=Lh (B.out.trans (hb.mono B.out.size))
  clear hb hW c0 c1
  go_wp2
  go_ret2
  exact ⟨rfl,B.out⟩
theorem sectors_ok (A:Option Addr) (n c:Nat) (A':Option Addr) (n' c':Nat) (S:List Sec) (C:List Pnd) (a m:Nat) (w:World) (hq:Dsk w A n c A' n' c' S C) (hs:SmallD S C) (hm:mayD S C=true) (hm1:1≤m) (hm4:m≤4) (han:a + 2 * m≤S.length) :
  Calls Tryz.prog 121 #[diskV A n c A' n' c',.int .i64 (a:Int),.int .i64 (m:Int)] w fun e w'=>∃ g,e=.returned (.tuple #[.slice (some ⟨g,0,none⟩) (2 * m) (2 * m),.int .i64 0])∧Opts w' (some ⟨g,0,none⟩) (2 * m) (2 * m) (optsOf S C a (2 * m))∧Below w.heap.size w w':=by
 have hbel:Below w.heap.size w (w.alloc (.cells #[.slice A n c,.slice A' n' c'] 25)):=(Below.refl _ _).alloc (Nat.le_refl _) _
 have x:=DBox.new hq
 have hln:=hq.secs.len
 have hsm:=hs.secs
 obtain ⟨w1,hW⟩:∃ x:World,x=w.alloc (.cells #[.slice A n c,.slice A' n' c'] 25):=⟨_,rfl⟩
 rw [← hW] at hbel x
 have K:=dsk_does.check A n c A' n' c' S C w1 x.dsk hs
 have X:=Lh x
 have B:=Lh hbel
 have B0:=Lh hbel
 obtain ⟨c0,c1⟩:=x.cells
 have hck:chkD S C=0:=by unfold chkD;rw [if_pos hm]
 rw [hck] at K
 have K:=Lh K
 rw [hln] at han
 have hn100:n≤300:=by omega
 have RD:=Lh (fun (k:Nat) wx (hx:Below w1.heap.size w1 wx)=>pread_nil A n c A' n' c' S C ((a:Int) + (k:Int)) wx (x.below hx).dsk hs)
 have hS:∀ s ∈ S,∀ z ∈ s.2,isByte z:=hq.secs.byte
 have hC:∀ p ∈ C,∀ z ∈ p.2,isByte z:=hq.pnds.byte
 have GD:=Lh (fun (k:Int) (h:rdE S C k=0)=>rd_good h hS hC)
 obtain ⟨V0,hV0⟩:∃ V:List Value,V=List.replicate (2 * m) (.slice none 0 0):=⟨_,rfl⟩
 have hmk:∀ w:World,(Instr.makeSlice 103 (.int .i64 (2 * (m:Int))) (.int .i64 (2 * (m:Int)))).run Tryz.prog w=.ok (.slice (some ⟨w.heap.size,0,none⟩) (2 * m) (2 * m)) (w.alloc (.cells V0.toArray 42)):=fun w=>by
  rw [hV0]
  have h:=make_opts (2 * m) (by omega) w
  rwa [show ((2 * m:Nat):Int)=2 * (m:Int) from by omega] at h
 have HV0:=Lh hV0
 have hw1:¬ (m:Int) < 1:=by omega
 have hw4:¬ (4:Int) < (m:Int):=by omega
 have ha0:¬ (a:Int) < 0:=by omega
 have hna:¬ (n:Int) - 2 * (m:Int) < (a:Int):=by omega
 have hwr:wrap64 (2 * (m:Int))=2 * (m:Int):=by unfold wrap64;omega
 have hwn:wrap64 ((n:Int) - 2 * (m:Int))=(n:Int) - 2 * (m:Int):=by unfold wrap64;omega
 have HM8:=Lh (show 2 * m≤8 by omega)
 have HA:=Lh (show a≤300 by omega)
 clear hbel x hq hs hsm hln hm hck hS hC hV0
 go_enter Tryz.func121,Tryz.ntmps121
 go_wp2_with fail
 rw [← hW]
 refine K.out.mono ?_
 rintro e w2 ⟨rfl,hb⟩
 have B:=Lh (B.out.trans (hb.mono B.out.size))
 have HB1:=Lh hb
 obtain ⟨c0,c1⟩:=(X.out.below hb).cells
 clear hb hW
 go_wp2
 have y:=Blk.new w2 42 V0
 have hb3:Below w2.heap.size w2 (w2.alloc (.cells V0.toArray 42)):=(Below.refl _ _).alloc (Nat.le_refl _) _
 obtain ⟨G,hG⟩:∃ G,G=w2.heap.size:=⟨_,rfl⟩
 rw [← hG] at y ⊢
 obtain ⟨w3,hV⟩:∃ x:World,x=w2.alloc (.cells V0.toArray 42):=⟨_,rfl⟩
 rw [← hV] at y hb3 ⊢
 have HGW:=Lh (show w1.heap.size≤G by rw [hG];exact HB1.out.size)
 have HGw:=Lh (show w.heap.size≤G by rw [hG];exact B.out.size)
 have B1:=Lh (HB1.out.trans (hb3.mono HB1.out.size))
 have Y:=Lh y
 clear y hb3 hV hG HB1 B K c0 c1 hmk hw1 hw4 ha0 hna
 go_loopw [39,10] (fun i _ wr=>∃ (k:Nat) (vs:List Value),k≤2 * m∧i=.int .i64 k∧vs.length=2 * m∧Blk wr G 42 vs∧OptsIn wr G vs (optsOf S C a (2 * m)) k∧Below w1.heap.size w1 wr) (fun i _ _=>2 * m - (intOf i).toNat)
 case atStart=>exact ⟨0,V0,Nat.zero_le _,rfl,by rw [HV0.out,List.length_replicate],Y.out,fun i hi=>absurd hi (Nat.not_lt_zero _),B1.out⟩
 case round =>
  obtain ⟨k,vs,hk,rfl,hvl,hy,hin,hb⟩:=hrel
  have hm8:=HM8.out
  have ha100:=HA.out
  by_cases hk2:k < 2 * m
  ·have hki:(k:Int) < 2 * (m:Int):=by omega
   have hwa:wrap64 ((a:Int) + (k:Int))=(a:Int) + (k:Int):=by unfold wrap64;omega
   have R:=Lh (RD.out k wr hb)
   obtain ⟨c0,c1⟩:=(X.out.below hb).cells
   have HY:=Lh hy
   have HIN:=Lh hin
   have HB:=Lh hb
   have HVL:=Lh hvl
   clear hy hin hb hvl
   go_wp2_with fail
   refine R.out.mono ?_
   rintro e w4 ⟨A4,c4,rfl,hown,hb4,hnil⟩
   have y4:=HY.out.below hb4 HY.out.lt
   have ho:OwnOpt w4 G A4 (rdB S C ((a:Int) + (k:Int))).length c4 ((optsOf S C a (2 * m)).getD k none):=by
    rw [optsOf_get S C a hk2]
    unfold optAt
    by_cases h0:rdE S C ((a:Int) + (k:Int))=0
    ·rw [if_pos h0]
     obtain ⟨h32,hby⟩:=GD.out _ h0
     exact ⟨(OwnTxt.of hown).lower (Nat.le_of_lt HY.out.lt),h32,hby⟩
    ·rw [if_neg h0]
     obtain ⟨rfl,rfl⟩:=hnil h0
     have hz:(rdB S C ((a:Int) + (k:Int)))=[]:=if_neg h0
     exact ⟨rfl,by rw [hz];rfl,rfl⟩
   obtain ⟨v4,hv4⟩:∃ v,vs[k]?=some v:=⟨_,geE (by rw [HVL.out];exact hk2)⟩
   have q0:=(y4.cell k).trans hv4
   have q1:=y4.free k
   have HO:=Lh ho
   have Y4:=Lh y4
   have IN4:=Lh (HIN.out.below hb4)
   have HB4:=Lh (HB.out.trans (hb4.mono HB.out.size))
   obtain ⟨n4,hn4⟩:∃ x,x=(rdB S C ((a:Int) + (k:Int))).length:=⟨_,rfl⟩
   rw [← hn4] at HO ⊢
   clear hown hb4 hnil ho hv4 y4 R c0 c1 hn4
   go_wp2
   go_roundw
   case rel=>exact ⟨k + 1,vs.set k (.slice A4 n4 c4),by omega,by go_num,by rw [List.length_set];exact HVL.out,Y4.out.set k _,IN4.out.put Y4.out (by rw [HVL.out];exact hk2) HO.out,HB4.out.setCell (p:=⟨G,k,none⟩) HGW.out _⟩
   all_goals (try case measure=>simp [intOf];omega)
  ·obtain rfl:k=2 * m:=by omega
   have hki:¬ (2:Int) * (m:Int) < 2 * (m:Int):=by omega
   have HOP:=Lh (hin.opts hy (Nat.le_trans HM8.out (by decide)) (optsOf_length _ _ _ _))
   have HF:=Lh ((show Below w.heap.size w w1 from B0.out).trans (hb.mono B0.out.size))
   clear hy hin hb hvl
   go_wp2
   go_ret2
   exact ⟨G,rfl,HOP.out,HF.out⟩
def crE (S:List Sec) (C:List Pnd) (at_ wd:Int):Int:=if cellE S C at_ wd=0 then (if hV wd.toNat (optsOf S C at_ (2 * wd.toNat))=0 then 6 else 0) else cellE S C at_ wd
def crV (S:List Sec) (C:List Pnd) (at_ wd:Int):Int:=if crE S C at_ wd=0 then hV wd.toNat (optsOf S C at_ (2 * wd.toNat)) else 0
def crB (S:List Sec) (C:List Pnd) (at_ wd:Int):Txt:=if crE S C at_ wd=0 then hB wd.toNat (optsOf S C at_ (2 * wd.toNat)) else []
def CRead (w:World) (b:Txt) (v E:Int) (e:Ending) (w':World):Prop :=
 ∃ A c,e=.returned (.tuple #[.slice A b.length c,.int .u32 v,.int .i64 E])∧w'.ownsRow w.heap.size 5 1 (.slice A b.length c) b.length (ints .u8 b)∧Below w.heap.size w w'
theorem cellE_zero {S:List Sec} {C:List Pnd} {at_ wd:Int} (h:cellE S C at_ wd=0):mayD S C=true∧∃ a m:Nat,at_=a∧wd=m∧1≤m∧m≤4∧a + 2 * m≤S.length:=by
 unfold cellE at h
 split at h
 ·rename_i hm
  split at h
  ·rename_i h1
   exact ⟨hm,at_.toNat,wd.toNat,by omega,by omega,by omega,by omega,by omega⟩
  ·cases h
 ·cases h
theorem cread_any (A:Option Addr) (n c:Nat) (A':Option Addr) (n' c':Nat) (S:List Sec) (C:List Pnd) (at_ wd:Int) (w:World) (hq:Dsk w A n c A' n' c' S C) (hs:SmallD S C) :
  Calls Tryz.prog 79 #[diskV A n c A' n' c',.int .i64 at_,.int .i64 wd] w (CRead w (crB S C at_ wd) (crV S C at_ wd) (crE S C at_ wd)):=by
 have hbel:Below w.heap.size w (w.alloc (.cells #[.slice A n c,.slice A' n' c'] 25)):=(Below.refl _ _).alloc (Nat.le_refl _) _
 have x:=DBox.new hq
 obtain ⟨w1,hW⟩:∃ x:World,x=w.alloc (.cells #[.slice A n c,.slice A' n' c'] 25):=⟨_,rfl⟩
 rw [← hW] at hbel x
 obtain ⟨c0,c1⟩:=x.cells
 have B:=Lh hbel
 by_cases hE:cellE S C at_ wd=0
 ·obtain ⟨hm,a,m,rfl,rfl,hm1,hm4,han⟩:=cellE_zero hE
  have K:=Lh (sectors_ok A n c A' n' c' S C a m w1 x.dsk hs hm hm1 hm4 han)
  have hcr:crE S C a m=if hV m (optsOf S C a (2 * m))=0 then 6 else 0:=by unfold crE;rw [if_pos hE,Int.toNat_natCast]
  have hcv:crV S C a m=if crE S C a m=0 then hV m (optsOf S C a (2 * m)) else 0:=by unfold crV;rw [Int.toNat_natCast]
  have hcb:crB S C a m=if crE S C a m=0 then hB m (optsOf S C a (2 * m)) else []:=by unfold crB;rw [Int.toNat_natCast]
  obtain ⟨l,hl⟩:∃ l,l=optsOf S C a (2 * m):=⟨_,rfl⟩
  rw [← hl] at K hcr hcv hcb
  have HE:=Lh (fun b wx (h:Opts wx (some ⟨b,0,none⟩) (2 * m) (2 * m) l)=>held_any b 0 (2 * m) (2 * m) m l wx h rfl hm1 (by omega))
  obtain ⟨v,hv⟩:∃ v,v=hV m l:=⟨_,rfl⟩
  obtain ⟨bb,hbb⟩:∃ v,v=hB m l:=⟨_,rfl⟩
  obtain ⟨ff,hff⟩:∃ v,v=hF m l:=⟨_,rfl⟩
  rw [← hv,← hbb,← hff] at HE
  rw [← hv] at hcr hcv
  rw [← hbb] at hcb
  obtain ⟨nb,hnb⟩:∃ v,v=bb.length:=⟨_,rfl⟩
  rw [← hnb] at HE
  have HNB:=Lh hnb
  clear hbel x hq hs hE hm hm1 hm4 han hl hv hbb hff hnb
  by_cases hz:v=0
  ·rw [if_pos hz] at hcr
   have hz2:(v == 0)=true:=beq_iff_eq.2 hz
   rw [hcr,if_neg (by decide)] at hcv hcb
   rw [hcr,hcv,hcb]
   clear hcr hcv hcb hz
   go_enter Tryz.func79,Tryz.ntmps79
   go_wp2_with fail
   rw [← hW]
   refine K.out.mono ?_
   rintro e w2 ⟨g,rfl,ho,hb⟩
   have B2:=Lh (B.out.trans (hb.mono B.out.size))
   have H2:=Lh (HE.out g w2 ho)
   clear hb hW c0 c1 K HE ho
   go_wp2_with fail
   refine H2.out.mono ?_
   rintro e w3 ⟨A3,c3,rfl,hown,hb⟩
   have y:=Blk.new w3 209 [.int .u32 v,.slice A3 nb c3]
   have p0:=y.cell 0
   have p1:=y.cell 1
   simp only [gcZ,gcS] at p0 p1
   have B3:=Lh ((B2.out.trans (hb.mono B2.out.size)).alloc (B2.out.trans (hb.mono B2.out.size)).size (.cells #[.int .u32 v,.slice A3 nb c3] 209))
   clear y hown hb
   go_wp2
   go_ret3
   exact ⟨none,0,rfl,World.ownsRow_nil _ _ _ _,B3.out⟩
  ·rw [if_neg hz] at hcr
   have hz2:(v == 0)=false:=beq_eq_false_iff_ne.2 hz
   rw [hcr,if_pos rfl] at hcv hcb
   rw [hcr,hcv,hcb]
   clear hcr hcv hcb hz
   go_enter Tryz.func79,Tryz.ntmps79
   go_wp2_with fail
   rw [← hW]
   refine K.out.mono ?_
   rintro e w2 ⟨g,rfl,ho,hb⟩
   have B2:=Lh (B.out.trans (hb.mono B.out.size))
   have H2:=Lh (HE.out g w2 ho)
   clear hb hW c0 c1 K HE ho
   go_wp2_with fail
   refine H2.out.mono ?_
   rintro e w3 ⟨A3,c3,rfl,hown,hb⟩
   have y:=Blk.new w3 209 [.int .u32 v,.slice A3 nb c3]
   have p0:=y.cell 0
   have p1:=y.cell 1
   simp only [gcZ,gcS] at p0 p1
   have hb4:Below w3.heap.size w3 (w3.alloc (.cells #[.int .u32 v,.slice A3 nb c3] 209)):=(Below.refl _ _).alloc (Nat.le_refl _) _
   have B3:=Lh ((B2.out.trans (hb.mono B2.out.size)).alloc (B2.out.trans (hb.mono B2.out.size)).size (.cells #[.int .u32 v,.slice A3 nb c3] 209))
   have O3:=Lh (owns_base (owns_below hown hb4) B2.out.size)
   obtain ⟨w4,hV⟩:∃ x:World,x=w3.alloc (.cells #[.int .u32 v,.slice A3 nb c3] 209):=⟨_,rfl⟩
   rw [← hV] at p0 p1 B3 O3
   clear y hown hb hb4
   go_upto_region 7 with fail
   rw [← hV]
   clear hV
   go_quiet (fail)
   go_wp2
   go_ret3
   refine ⟨A3,c3,by rw [← HNB.out];rfl,?_,below_drewN B3.out _⟩
   rw [← HNB.out]
   exact owns_below O3.out (below_drewN (Below.refl _ _) _)
 ·have hcr:crE S C at_ wd=cellE S C at_ wd:=by unfold crE;rw [if_neg hE]
  have hcv:crV S C at_ wd=0:=by unfold crV;rw [hcr,if_neg hE]
  have hcb:crB S C at_ wd=[]:=by unfold crB;rw [hcr,if_neg hE]
  have K:=Lh (sectors_no A n c A' n' c' S C at_ wd w1 x.dsk hs hE)
  rw [hcr,hcv,hcb]
  obtain ⟨E,hEE⟩:∃ E,E=cellE S C at_ wd:=⟨_,rfl⟩
  rw [← hEE] at K hE ⊢
  have hne:(E != 0)=true:=bne_iff_ne.2 hE
  clear hbel x hq hs hE hcr hcv hcb hEE
  go_enter Tryz.func79,Tryz.ntmps79
  go_wp2_with fail
  rw [← hW]
  refine K.out.mono ?_
  rintro e w2 ⟨rfl,hb⟩
  have B2:=Lh (B.out.trans (hb.mono B.out.size))
  clear hb hW c0 c1 K
  go_wp2
  go_ret3
  exact ⟨none,0,rfl,World.ownsRow_nil _ _ _ _,B2.out⟩
end Go.Proofs.YtifgcfepbenpjaaGreat
