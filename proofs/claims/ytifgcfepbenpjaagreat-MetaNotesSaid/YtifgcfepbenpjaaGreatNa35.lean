/- Texts of layers 1 to 12, joined. -/
import Derived.Test.YtifgcfepbenpjaaGreatNa25
import Derived.Test.YtifgcfepbenpjaaGreatNa34
import Derived.Deep.RegionHeld3
set_option maxRecDepth 100000
set_option maxHeartbeats 12800000
set_option linter.unusedVariables false
namespace Go.Proofs.YtifgcfepbenpjaaGreat
open Go.RowKit
section
variable {w w':World} {G:Nat} {P T A M W Q:Int} {D D':Option Addr} {n c n' c':Nat} {S:List Sec} {C:List Pnd}
end
def TxtOut (w:World) (L:Txt) (E:Int) (e:Ending) (w':World):Prop :=
 ∃ A c,e=.returned (.tuple #[.slice A L.length c,.int .i64 E])∧OwnTxt w' w.heap.size A L.length c L∧Below w.heap.size w w'
def PndOut (w:World) (x:Int) (L:Txt) (E:Int) (e:Ending) (w':World):Prop :=
 ∃ A c,e=.returned (.tuple #[.agg #[.int .i64 x,.slice A L.length c],.int .i64 E])∧OwnTxt w' w.heap.size A L.length c L∧Below w.heap.size w w'
section
variable {w w':World} {G:Nat} {P T A M W Q:Int} {D D':Option Addr} {n c n' c':Nat} {S:List Sec} {C:List Pnd}
end
theorem jtext_any (g n:Int) (A:Option Addr) (k c:Nat) (b:Txt) (w:World) (hg:isG g) (hb:Arg w .u8 A k c b) :
  Calls Tryz.prog 154 #[.int .u64 g,.int .i64 n,.slice A k c] w (TxtOut w (jtB g n b) (jtE n b)):=by
 unfold TxtOut
 have hlen:=hb.len
 by_cases h0:jtE n b=0
 ·have hB:jtB g n b=jT g n b:=if_pos h0
  have hr:(1≤b.length∧b.length≤20)∧0≤n∧n≤255:=by
   unfold jtE at h0
   split at h0
   ·split at h0
    ·exact ⟨by assumption,by assumption⟩
    ·cases h0
   ·cases h0
  rw [hlen] at hr
  rw [h0,hB,jT_length g n (by omega)]
  have NO:=Lh (noteof_yes g n A k c w hr.1.1 hr.1.2 hr.2)
  have MN:=method_note g n A k c
  have TX:=Lh (ntext_any g n hg hr.2 A k c b w hb hr.1.2)
  clear h0 hB hr hlen hb
  go_enter Tryz.func154,Tryz.ntmps154
  go_wp2_with fail
  refine NO.out.mono ?_
  rintro e w1 ⟨rfl,rfl⟩
  clear NO
  go_wp2_with fail
  refine TX.out.mono ?_
  rintro e w2 ⟨G,rfl,hown,hb⟩
  have OW:=Lh (OwnTxt.of hown)
  have B:=Lh hb
  clear hown hb TX MN
  go_wp2
  go_ret2
  exact ⟨_,_,rfl,OW.out,B.out⟩
 ·have hB:jtB g n b=[]:=if_neg h0
  rw [hB]
  have NO:=Lh (noteof_no g n A k c b w hlen h0)
  have MN:=method_fault (jtE n b)
  obtain ⟨E,hE⟩:∃ E,E=jtE n b:=⟨_,rfl⟩
  rw [← hE] at NO MN ⊢
  clear h0 hB hlen hb hE
  go_enter Tryz.func154,Tryz.ntmps154
  go_wp2_with fail
  refine NO.out.mono ?_
  rintro e w1 ⟨rfl,rfl⟩
  clear NO
  go_wp2_with fail
  refine (ftext_any E _).mono ?_
  rintro e w2 ⟨rfl,rfl⟩
  go_wp2
  go_ret2
  exact ⟨none,0,rfl,OwnTxt.nil _ _,Below.refl _ _⟩
theorem own_two {w:World} {base:Nat} {A:Option Addr} {n c:Nat} {T:Txt} (h:OwnTxt w base A n c T) {g:Nat} {t:TypeId} {cs:List Value} (hb:Blk w g t cs) (h2:t≠5) (x y:Value):OwnTxt ((w.setCell ⟨g,0,none⟩ x).setCell ⟨g,1,none⟩ y) base A n c T :=
 (h.box hb h2 0 x).box (hb.set 0 x) h2 1 y
theorem jae_may {P T A M W Q:Int} {S:List Sec} {C:List Pnd} {a:Int} (h:jaE P T A M W Q S C a=0):mayT P T A M W Q S C∧arJ a:=by
 unfold jaE at h
 split at h
 ·split at h
  ·exact ⟨by assumption,by assumption⟩
  ·cases h
 ·cases h
theorem first_wrap {P T A M W Q:Int} {S:List Sec} {C:List Pnd} {a j:Int} (h:jaE P T A M W Q S C a=0) (hj:0≤j) (hA:j < A):0≤2 + a * A∧2 + a * A≤100∧IntKind.i64.wrap (2 + a * A + j)=2 + a * A + j:=by
 obtain ⟨h1,h2⟩:=jae_may h
 have h3:=h1.1
 unfold mayC at h3
 have e:a * A=0∨a * A=A:=by
  unfold arJ at h2
  rcases (show a=0∨a=1 by omega) with r | r
  ·rw [r];left;simp
  ·rw [r];right;simp
 obtain ⟨k,hk⟩:=Int.eq_ofNat_of_zero_le (show 0≤2 + a * A + j by omega)
 refine ⟨by omega,by omega,?_⟩
 rw [hk]
 exact Lib.wrap_i64_small k (by omega)
def jaN (P T A M W Q:Int) (S:List Sec) (C:List Pnd) (a:Int):Int:=if jaE P T A M W Q S C a=0 then 2 + a * A else 0
theorem firstof_any (P T A M W Q:Int) (D:Option Addr) (n c:Nat) (D':Option Addr) (n' c':Nat) (S:List Sec) (C:List Pnd) (a:Int) (w:World) (hq:Dsk w D n c D' n' c' S C) (hs:SmallD S C) :
  Calls Tryz.prog 81 #[cfgV P T A M W Q,diskV D n c D' n' c',.int .i64 a] w fun e w'=>e=.returned (.tuple #[.int .i64 (jaN P T A M W Q S C a),.int .i64 (jaE P T A M W Q S C a)])∧Below w.heap.size w w':=by
 obtain ⟨x,hbel⟩:=TBox.new P T A M W Q hq
 obtain ⟨w0,hw0⟩:∃ x:World,x=(w.alloc (.cells #[.int .i64 P,.int .i64 T,.int .i64 A,.int .i64 M,.int .i64 W,.int .i64 Q] 36)).alloc (.cells #[.slice D n c,.slice D' n' c'] 25):=⟨_,rfl⟩
 rw [← hw0] at x hbel
 have X:=Lh x
 have B:=Lh hbel
 have CK:=Lh (tcheck_any P T A M W Q D n c D' n' c' S C w0 x.dsk.dsk hs)
 obtain ⟨c0,c1,c2,c3,c4,c5,d0,d1⟩:=x.cells
 by_cases hm:mayT P T A M W Q S C
 ·rw [show tcE P T A M W Q S C=0 from if_pos hm] at CK
  have hmc:mayC P T A M W Q:=hm.1
  have hA1:1≤A:=by unfold mayC at hmc;omega
  have hE:jaE P T A M W Q S C a=areE P T A M W Q a 0:=by
   unfold jaE areE
   rw [if_pos hm,if_pos hmc]
   by_cases h:arJ a
   ·rw [if_pos h,if_pos ⟨h.1,h.2,by omega,by omega⟩]
   ·rw [if_neg h,if_neg (fun k=>h ⟨k.1,k.2.1⟩)]
  have hN:jaN P T A M W Q S C a=areN P T A M W Q a 0:=by
   unfold jaN jaE areN
   rw [if_pos hm,if_pos hmc]
   by_cases h:arJ a
   ·rw [if_pos h,if_pos rfl,if_pos ⟨h.1,h.2,by omega,by omega⟩]
    omega
   ·rw [if_neg h,if_neg (by decide),if_neg (fun k=>h ⟨k.1,k.2.1⟩)]
  rw [hE,hN]
  have AR:=Lh (fun wx=>parea_any P T A M W Q a 0 wx)
  obtain ⟨E,hEE⟩:∃ E,E=areE P T A M W Q a 0:=⟨_,rfl⟩
  obtain ⟨y,hy⟩:∃ y,y=areN P T A M W Q a 0:=⟨_,rfl⟩
  rw [← hEE,← hy] at AR ⊢
  clear hm hmc hA1 hE hN hEE hy hq hs hbel
  go_enter Tryz.func81,Tryz.ntmps81
  go_wp2_with fail
  rw [← hw0]
  clear hw0
  refine CK.out.mono ?_
  rintro e w1 ⟨rfl,hb⟩
  have B:=Lh (B.out.trans (hb.mono B.out.size))
  have X:=Lh (X.out.below hb)
  clear hb x CK c0 c1 c2 c3 c4 c5 d0 d1
  obtain ⟨c0,c1,c2,c3,c4,c5,d0,d1⟩:=X.out.cells
  go_wp2_with fail
  refine (AR.out _).mono ?_
  rintro e w2 ⟨rfl,hb⟩
  have B:=Lh (B.out.trans (hb.mono B.out.size))
  clear hb X AR c0 c1 c2 c3 c4 c5 d0 d1
  go_wp2
  go_ret2
  exact ⟨rfl,B.out⟩
 ·rw [show tcE P T A M W Q S C=8 from if_neg hm] at CK
  have hE:jaE P T A M W Q S C a=8:=if_neg hm
  rw [show jaN P T A M W Q S C a=0 by unfold jaN;rw [hE];rfl,hE]
  clear hm hE hq hs hbel
  go_enter Tryz.func81,Tryz.ntmps81
  go_wp2_with fail
  rw [← hw0]
  clear hw0
  refine CK.out.mono ?_
  rintro e w1 ⟨rfl,hb⟩
  have B:=Lh (B.out.trans (hb.mono B.out.size))
  clear hb x CK c0 c1 c2 c3 c4 c5 d0 d1
  go_wp2
  go_ret2
  exact ⟨rfl,B.out⟩
theorem jplan_any (P T A M W Q:Int) (D:Option Addr) (n c:Nat) (D':Option Addr) (n' c':Nat) (S:List Sec) (C:List Pnd) (a g j:Int) (Ab:Option Addr) (nb cb:Nat) (b:Txt) (w:World) (hq:Dsk w D n c D' n' c' S C) (hs:SmallD S C) (hg:isG g) (hb:Arg w .u8 Ab nb cb b) :
  Calls Tryz.prog 113 #[cfgV P T A M W Q,diskV D n c D' n' c',.int .i64 a,.int .u64 g,.int .i64 j,.slice Ab nb cb] w (PndOut w (jpN P T A M W Q S C a j b) (jpB P T A M W Q S C a g j b) (jpE P T A M W Q S C a j b)):=by
 obtain ⟨x,hbel⟩:=TBox.new P T A M W Q hq
 have hk:=(Below.refl ((w.alloc (.cells #[.int .i64 P,.int .i64 T,.int .i64 A,.int .i64 M,.int .i64 W,.int .i64 Q] 36)).alloc (.cells #[.slice D n c,.slice D' n' c'] 25)).heap.size _).alloc (Nat.le_refl _) (.cells #[.int .i64 0,.slice none 0 0] 114)
 have r:=Blk.new ((w.alloc (.cells #[.int .i64 P,.int .i64 T,.int .i64 A,.int .i64 M,.int .i64 W,.int .i64 Q] 36)).alloc (.cells #[.slice D n c,.slice D' n' c'] 25)) 114 [.int .i64 0,.slice none 0 0]
 rw [World.size_alloc,World.size_alloc] at r
 have x:=x.below hk
 have hbel:=hbel.trans (hk.mono hbel.size)
 obtain ⟨w0,hw0⟩:∃ x:World,x=((w.alloc (.cells #[.int .i64 P,.int .i64 T,.int .i64 A,.int .i64 M,.int .i64 W,.int .i64 Q] 36)).alloc (.cells #[.slice D n c,.slice D' n' c'] 25)).alloc (.cells #[.int .i64 0,.slice none 0 0] 114):=⟨_,rfl⟩
 change Blk (((w.alloc (.cells #[.int .i64 P,.int .i64 T,.int .i64 A,.int .i64 M,.int .i64 W,.int .i64 Q] 36)).alloc (.cells #[.slice D n c,.slice D' n' c'] 25)).alloc (.cells #[.int .i64 0,.slice none 0 0] 114)) _ _ _ at r
 change TBox (((w.alloc (.cells #[.int .i64 P,.int .i64 T,.int .i64 A,.int .i64 M,.int .i64 W,.int .i64 Q] 36)).alloc (.cells #[.slice D n c,.slice D' n' c'] 25)).alloc (.cells #[.int .i64 0,.slice none 0 0] 114)) _ _ _ _ _ _ _ _ _ _ _ _ _ _ _ at x
 change Below _ _ (((w.alloc (.cells #[.int .i64 P,.int .i64 T,.int .i64 A,.int .i64 M,.int .i64 W,.int .i64 Q] 36)).alloc (.cells #[.slice D n c,.slice D' n' c'] 25)).alloc (.cells #[.int .i64 0,.slice none 0 0] 114)) at hbel
 rw [← hw0] at x hbel r
 have X:=Lh x
 have B:=Lh hbel
 have R:=Lh r
 have HBA:=Lh (hb.below hbel)
 have hlen:=hb.len
 have FO:=Lh (firstof_any P T A M W Q D n c D' n' c' S C a w0 x.dsk.dsk hs)
 obtain ⟨c0,c1,c2,c3,c4,c5,d0,d1⟩:=x.cells
 unfold PndOut
 by_cases h0:jaE P T A M W Q S C a=0
 ·have hN:jaN P T A M W Q S C a=2 + a * A:=if_pos h0
  rw [h0,hN] at FO
  have hpE:jpE P T A M W Q S C a j b=if 0≤j then (if j < A then jtE j b else 9) else 2:=if_pos h0
  by_cases hj:0≤j
  ·rw [if_pos hj] at hpE
   by_cases hA:j < A
   ·rw [if_pos hA] at hpE
    have TX:=Lh (fun wx (h:Arg wx .u8 Ab nb cb b)=>jtext_any g j Ab nb cb b wx hg h)
    unfold TxtOut at TX
    have hjn:¬ (j < 0):=by omega
    have hjA:¬ (A≤j):=by omega
    obtain ⟨F,hF⟩:∃ F,F=2 + a * A:=⟨_,rfl⟩
    rw [← hF] at FO
    have hin:=first_wrap h0 hj hA
    rw [← hF] at hin
    have e1:IntKind.i64.wrap (F + j)=F + j:=hin.2.2
    by_cases hE:jtE j b=0
    ·have hp0:=hpE.trans hE
     rw [show jpN P T A M W Q S C a j b=F + j by unfold jpN;rw [if_pos hp0,hF],show jpB P T A M W Q S C a g j b=jtB g j b by unfold jpB jtB;rw [if_pos hp0,if_pos hE],hp0]
     rw [hE] at TX
     obtain ⟨t,ht⟩:∃ t,t=jtB g j b:=⟨_,rfl⟩
     rw [← ht] at TX ⊢
     clear h0 hN hpE hj hA hF hin hE hp0 hq hs hg hb hbel hlen ht hk
     go_enter Tryz.func113,Tryz.ntmps113
     go_wp2_with fail
     rw [← hw0]
     clear hw0
     refine FO.out.mono ?_
     rintro e w1 ⟨rfl,hb⟩
     have B:=Lh (B.out.trans (hb.mono B.out.size))
     have X:=Lh (X.out.below hb)
     have R:=Lh (R.out.below hb R.out.lt)
     have HBA:=Lh (HBA.out.below hb)
     clear hb x r FO c0 c1 c2 c3 c4 c5 d0 d1
     obtain ⟨c0,c1,c2,c3,c4,c5,d0,d1⟩:=X.out.cells
     have r0:=R.out.cell 0
     have r1:=R.out.cell 1
     have f0:=R.out.free 0
     have f1:=R.out.free 1
     simp only [gcZ,gcS] at r0 r1
     go_wp2_with fail
     refine (TX.out _ HBA.out).mono ?_
     rintro e w2 ⟨A2,c2',rfl,hown,hb⟩
     have hsz:=B.out.size
     have B:=Lh (B.out.trans (hb.mono B.out.size))
     have R:=Lh (R.out.below hb R.out.lt)
     have OW:=Lh (hown.lower (base':=w.heap.size) hsz)
     clear hb hown TX X HBA c0 c1 c2 c3 c4 c5 d0 d1 r0 r1 f0 f1
     have r0:=R.out.cell 0
     have r1:=R.out.cell 1
     have f0:=R.out.free 0
     have f1:=R.out.free 1
     simp only [gcZ,gcS] at r0 r1
     go_wp2
     have z:=R.out.two (.int .i64 (F + j)) (.slice A2 t.length c2')
     have z0:=z.cell 0
     have z1:=z.cell 1
     simp only [gcZ,gcS] at z0 z1
     refine bodyPost_ret (v:=.tuple #[.agg #[.int .i64 (F + j),.slice A2 t.length c2'],.int .i64 0]) ?_ rfl ⟨A2,c2',rfl,own_two OW.out R.out (by decide) _ _,below_two B.out (by omega) _ _⟩
     clear r0 r1 f0 f1
     simp [results,Tryz.f113,go_sem,z0,z1]
    ·have hpE0:jpE P T A M W Q S C a j b≠0:=by rw [hpE];exact hE
     rw [show jpN P T A M W Q S C a j b=0 from if_neg hpE0,show jpB P T A M W Q S C a g j b=[] from if_neg hpE0,hpE]
     rw [show jtB g j b=[] from if_neg hE] at TX
     obtain ⟨E,hEE⟩:∃ E,E=jtE j b:=⟨_,rfl⟩
     rw [← hEE] at TX hE ⊢
     have hne:(E != 0)=true:=by rw [bne_iff_ne];exact hE
     clear h0 hN hpE hpE0 hj hA hF hin hE hq hs hg hb hbel hlen hk hEE e1
     go_enter Tryz.func113,Tryz.ntmps113
     go_wp2_with fail
     rw [← hw0]
     clear hw0
     refine FO.out.mono ?_
     rintro e w1 ⟨rfl,hb⟩
     have B:=Lh (B.out.trans (hb.mono B.out.size))
     have X:=Lh (X.out.below hb)
     have R:=Lh (R.out.below hb R.out.lt)
     have HBA:=Lh (HBA.out.below hb)
     clear hb x r FO c0 c1 c2 c3 c4 c5 d0 d1
     obtain ⟨c0,c1,c2,c3,c4,c5,d0,d1⟩:=X.out.cells
     have r0:=R.out.cell 0
     have r1:=R.out.cell 1
     have f0:=R.out.free 0
     have f1:=R.out.free 1
     simp only [gcZ,gcS] at r0 r1
     go_wp2_with fail
     refine (TX.out _ HBA.out).mono ?_
     rintro e w2 ⟨A2,c2',rfl,hown,hb⟩
     have hsz:=B.out.size
     have B:=Lh (B.out.trans (hb.mono B.out.size))
     have R:=Lh (R.out.below hb R.out.lt)
     clear hb hown TX HBA r0 r1 f0 f1
     have r0:=R.out.cell 0
     have r1:=R.out.cell 1
     have f0:=R.out.free 0
     have f1:=R.out.free 1
     simp only [gcZ,gcS] at r0 r1
     go_wp2
     have z:=R.out.two (.int .i64 0) (.slice none 0 0)
     have z0:=z.cell 0
     have z1:=z.cell 1
     simp only [gcZ,gcS] at z0 z1
     refine bodyPost_ret (v:=.tuple #[.agg #[.int .i64 0,.slice none 0 0],.int .i64 E]) ?_ rfl ⟨none,0,rfl,OwnTxt.nil _ _,below_two B.out (by omega) _ _⟩
     clear c0 c1 c2 c3 c4 c5 d0 d1 r0 r1 f0 f1
     simp [results,Tryz.f113,go_sem,z0,z1]
   ·rw [if_neg hA] at hpE
    have hpE0:jpE P T A M W Q S C a j b≠0:=by rw [hpE];decide
    rw [show jpN P T A M W Q S C a j b=0 from if_neg hpE0,show jpB P T A M W Q S C a g j b=[] from if_neg hpE0,hpE]
    have hjn:¬ (j < 0):=by omega
    have hjA:A≤j:=by omega
    clear h0 hN hpE hpE0 hj hA hq hs hg hb hbel hlen hk
    go_enter Tryz.func113,Tryz.ntmps113
    go_wp2_with fail
    rw [← hw0]
    clear hw0
    refine FO.out.mono ?_
    rintro e w1 ⟨rfl,hb⟩
    have B:=Lh (B.out.trans (hb.mono B.out.size))
    have X:=Lh (X.out.below hb)
    have R:=Lh (R.out.below hb R.out.lt)
    have HBA:=Lh (HBA.out.below hb)
    clear hb x r FO c0 c1 c2 c3 c4 c5 d0 d1
    obtain ⟨c0,c1,c2,c3,c4,c5,d0,d1⟩:=X.out.cells
    have r0:=R.out.cell 0
    have r1:=R.out.cell 1
    have f0:=R.out.free 0
    have f1:=R.out.free 1
    simp only [gcZ,gcS] at r0 r1
    go_wp2
    have z:=R.out.two (.int .i64 0) (.slice none 0 0)
    have z0:=z.cell 0
    have z1:=z.cell 1
    simp only [gcZ,gcS] at z0 z1
    refine bodyPost_ret (v:=.tuple #[.agg #[.int .i64 0,.slice none 0 0],.int .i64 9]) ?_ rfl ⟨none,0,rfl,OwnTxt.nil _ _,below_two B.out (by omega) _ _⟩
    clear c0 c1 c2 c3 c4 c5 d0 d1 r0 r1 f0 f1
    simp [results,Tryz.f113,go_sem,z0,z1]
  ·rw [if_neg hj] at hpE
   have hpE0:jpE P T A M W Q S C a j b≠0:=by rw [hpE];decide
   rw [show jpN P T A M W Q S C a j b=0 from if_neg hpE0,show jpB P T A M W Q S C a g j b=[] from if_neg hpE0,hpE]
   have hjn:j < 0:=by omega
   clear h0 hN hpE hpE0 hj hq hs hg hb hbel hlen hk
   go_enter Tryz.func113,Tryz.ntmps113
   go_wp2_with fail
   rw [← hw0]
   clear hw0
   refine FO.out.mono ?_
   rintro e w1 ⟨rfl,hb⟩
   have B:=Lh (B.out.trans (hb.mono B.out.size))
   have X:=Lh (X.out.below hb)
   have R:=Lh (R.out.below hb R.out.lt)
   have HBA:=Lh (HBA.out.below hb)
   clear hb x r FO c0 c1 c2 c3 c4 c5 d0 d1
   obtain ⟨c0,c1,c2,c3,c4,c5,d0,d1⟩:=X.out.cells
   have r0:=R.out.cell 0
   have r1:=R.out.cell 1
   have f0:=R.out.free 0
   have f1:=R.out.free 1
   simp only [gcZ,gcS] at r0 r1
   go_wp2
   have z:=R.out.two (.int .i64 0) (.slice none 0 0)
   have z0:=z.cell 0
   have z1:=z.cell 1
   simp only [gcZ,gcS] at z0 z1
   refine bodyPost_ret (v:=.tuple #[.agg #[.int .i64 0,.slice none 0 0],.int .i64 2]) ?_ rfl ⟨none,0,rfl,OwnTxt.nil _ _,below_two B.out (by omega) _ _⟩
   clear c0 c1 c2 c3 c4 c5 d0 d1 r0 r1 f0 f1
   simp [results,Tryz.f113,go_sem,z0,z1]
 ·have hpE:jpE P T A M W Q S C a j b=jaE P T A M W Q S C a:=if_neg h0
  have hpE0:jpE P T A M W Q S C a j b≠0:=by rw [hpE];exact h0
  rw [show jpN P T A M W Q S C a j b=0 from if_neg hpE0,show jpB P T A M W Q S C a g j b=[] from if_neg hpE0,hpE]
  rw [show jaN P T A M W Q S C a=0 from if_neg h0] at FO
  obtain ⟨E,hEE⟩:∃ E,E=jaE P T A M W Q S C a:=⟨_,rfl⟩
  rw [← hEE] at FO h0 ⊢
  have hne:(E != 0)=true:=by rw [bne_iff_ne];exact h0
  clear h0 hpE hpE0 hq hs hg hb hbel hlen hk hEE
  go_enter Tryz.func113,Tryz.ntmps113
  go_wp2_with fail
  rw [← hw0]
  clear hw0
  refine FO.out.mono ?_
  rintro e w1 ⟨rfl,hb⟩
  have B:=Lh (B.out.trans (hb.mono B.out.size))
  have X:=Lh (X.out.below hb)
  have R:=Lh (R.out.below hb R.out.lt)
  have HBA:=Lh (HBA.out.below hb)
  clear hb x r FO c0 c1 c2 c3 c4 c5 d0 d1
  obtain ⟨c0,c1,c2,c3,c4,c5,d0,d1⟩:=X.out.cells
  have r0:=R.out.cell 0
  have r1:=R.out.cell 1
  have f0:=R.out.free 0
  have f1:=R.out.free 1
  simp only [gcZ,gcS] at r0 r1
  go_wp2
  have z:=R.out.two (.int .i64 0) (.slice none 0 0)
  have z0:=z.cell 0
  have z1:=z.cell 1
  simp only [gcZ,gcS] at z0 z1
  refine bodyPost_ret (v:=.tuple #[.agg #[.int .i64 0,.slice none 0 0],.int .i64 E]) ?_ rfl ⟨none,0,rfl,OwnTxt.nil _ _,below_two B.out (by omega) _ _⟩
  clear c0 c1 c2 c3 c4 c5 d0 d1 r0 r1 f0 f1
  simp [results,Tryz.f113,go_sem,z0,z1]
end Go.Proofs.YtifgcfepbenpjaaGreat
