/- Texts of layers 1 to 12, joined. -/
import Derived.Test.YtifgcfepbenpjaaGreatNa32
set_option maxRecDepth 100000
set_option maxHeartbeats 12800000
set_option linter.unusedVariables false
namespace Go.Proofs.YtifgcfepbenpjaaGreat
open Go.RowKit
theorem rrow9_any (v a g:Int) (hs:isS (v,a,g)) (ha:arS a) (w:World) :
  Calls Tryz.prog 96 #[supV v a g] w fun e w'=>∃ A c,e=.returned (.slice A 13 c)∧w'.ownsRow w.heap.size 5 1 (.slice A 13 c) 13 (ints .u8 (suT (v,a,g)))∧Below w.heap.size w w':=by
 have x:=Blk.new w 29 [.int .u32 v,.int .i64 a,.int .u64 g]
 have hb0:Below w.heap.size w (w.alloc (.cells #[.int .u32 v,.int .i64 a,.int .u64 g] 29)):=(Below.refl _ _).alloc (Nat.le_refl _) _
 obtain ⟨⟨hv0,hv1⟩,hg0,hg1⟩:=hs
 dsimp only at hv0 hv1 hg0 hg1
 have ha1:0≤a∧a < 256:=by unfold arS at ha;omega
 have e1:IntKind.u64.wrap v=v:=wraps_u64 v hv0 (by omega)
 have e2:IntKind.u64.wrap a=a:=wraps_u64 a ha1.1 (by omega)
 have W1:∀ z ∈ [v,a,g],isWord z:=by
  intro z hz
  simp only [List.mem_cons,List.not_mem_nil,or_false] at hz
  unfold isWord
  rcases hz with rfl | rfl | rfl <;> omega
 obtain ⟨w0,hw0⟩:∃ x,x=w.alloc (.cells #[.int .u32 v,.int .i64 a,.int .u64 g] 29):=⟨_,rfl⟩
 have hs0:w0.heap.size=w.heap.size + 1:=by rw [hw0];simp
 rw [← hw0] at hb0 x
 have hb1:Below w0.heap.size w0 (w0.alloc (.cells #[.int .u64 v,.int .u64 a,.int .u64 g] 27)):=(Below.refl _ _).alloc (Nat.le_refl _) _
 obtain ⟨w1,hw1⟩:∃ x,x=w0.alloc (.cells #[.int .u64 v,.int .u64 a,.int .u64 g] 27):=⟨_,rfl⟩
 have hL:=nums_sup w0 v a g w0.heap.size w1.heap.size rfl (by rw [hw1];simp)
 rw [← hw1] at hb1 hL
 have hs1:w1.heap.size=w.heap.size + 2:=by rw [hw1,World.size_alloc,hs0]
 have hb2:Below w1.heap.size w1 (w1.alloc (.cells #[.int .i64 4,.int .i64 1,.int .i64 8] 3)):=(Below.refl _ _).alloc (Nat.le_refl _) _
 have hZ:Seq (w1.alloc (.cells #[.int .i64 4,.int .i64 1,.int .i64 8] 3)) (w1.alloc (.cells #[.int .i64 4,.int .i64 1,.int .i64 8] 3)).heap.size (some ⟨w1.heap.size,0,none⟩) (ints .i64 sz3):=lit_row w1 3 .i64 sz3 _ _ _ rfl rfl (by simp)
 obtain ⟨w2,hw2⟩:∃ x,x=w1.alloc (.cells #[.int .i64 4,.int .i64 1,.int .i64 8] 3):=⟨_,rfl⟩
 rw [← hw2] at hb2 hZ
 have hL2:=(hL.below hb2).more hb2.size
 have hB:=hb0.trans ((hb1.trans (hb2.mono hb1.size)).mono hb0.size)
 have RW:=Lh (row_any (some ⟨w0.heap.size,0,none⟩) (some ⟨w1.heap.size,0,none⟩) 3 3 3 [v,a,g] sz3 w2 hZ okB_sz3 hL2 rfl rfl W1)
 rw [hs0,hs1] at RW
 obtain ⟨c0,c1,c2⟩:=x.tri
 have HB:=Lh hB
 have hrl:=suT_length (v,a,g)
 clear hb0 hb1 hb2 hB hL hL2 hZ W1 hv0 hv1 hg0 hg1 ha1 ha x
 go_enter Tryz.func96,Tryz.ntmps96
 go_wp2_with fail
 rw [← hw0,← hw1,← hw2]
 clear hw0 hw1 hw2 hs0 hs1 c0 c1 c2
 refine RW.out.mono ?_
 rintro e w3 ⟨A3,c3,rfl,hown,hb3⟩
 rw [show rowTo [v,a,g] sz3 3=suT (v,a,g) from rfl] at hown ⊢
 rw [hrl] at hown ⊢
 have B3:=Lh (HB.out.trans (hb3.mono HB.out.size))
 have O3:=Lh (owns_base hown HB.out.size)
 clear hown hb3 RW hrl
 go_wp2
 go_ret
 exact ⟨A3,c3,rfl,O3.out,B3.out⟩
theorem rplan9_any (P T A M W Q:Int) (D:Option Addr) (n c:Nat) (D':Option Addr) (n' c':Nat) (S:List Sec) (C:List Pnd) (v a g:Int) (w:World) (hq:Dsk w D n c D' n' c' S C) (hs:SmallD S C) (hi:isS (v,a,g)) :
  Calls Tryz.prog 53 #[cfgV P T A M W Q,diskV D n c D' n' c',supV v a g] w (RPlan w (spL P T A M W Q S C (v,a,g)) (spE P T A M W Q S C (v,a,g))):=by
 obtain ⟨x,hbel⟩:=SBox.new P T A M W Q v a g hq
 obtain ⟨w0,hw0⟩:∃ x:World,x=((w.alloc (.cells #[.int .i64 P,.int .i64 T,.int .i64 A,.int .i64 M,.int .i64 W,.int .i64 Q] 36)).alloc (.cells #[.slice D n c,.slice D' n' c'] 25)).alloc (.cells #[.int .u32 v,.int .i64 a,.int .u64 g] 29):=⟨_,rfl⟩
 rw [← hw0] at x hbel
 have X:=Lh x
 have B:=Lh hbel
 have CK:=Lh (fun wx hx=>rmayT_any P T A M W Q D n c D' n' c' S C wx hx hs)
 obtain ⟨c0,c1,c2,c3,c4,c5,d0,d1,q0,q1,q2⟩:=x.cells
 by_cases hm:mayT P T A M W Q S C
 ·rw [decide_eq_true hm] at CK
  by_cases ha:arS a
  ·have hE:spE P T A M W Q S C (v,a,g)=cpE S C 0 1 (suT (v,a,g)):=(if_pos hm).trans (if_pos ha)
   have hL:spL P T A M W Q S C (v,a,g)=cpL S C 0 1 (suT (v,a,g)):=by
    unfold spL cpL
    rw [hE]
    split <;> rfl
   rw [hE,hL]
   have RW:=Lh (fun wx:World=>rrow9_any v a g hi ha wx)
   have PL:=Lh (fun A0 c0 wx hx hy hsp=>rplan6_any D n c D' n' c' S C 0 1 A0 13 c0 (suT (v,a,g)) wx hx hs hy (suT_byte _) (by decide) hsp)
   unfold RPlan at PL ⊢
   obtain ⟨t,ht⟩:∃ t,t=suT (v,a,g):=⟨_,rfl⟩
   rw [← ht] at PL RW ⊢
   obtain ⟨L,hL⟩:∃ L,L=cpL S C 0 1 t:=⟨_,rfl⟩
   obtain ⟨E,hE⟩:∃ L,L=cpE S C 0 1 t:=⟨_,rfl⟩
   rw [← hL,← hE] at PL ⊢
   obtain ⟨m,hmm⟩:∃ m,m=L.length:=⟨_,rfl⟩
   rw [← hmm] at PL ⊢
   have ha0:¬ a < 0:=by unfold arS at ha;omega
   have ha1:¬ 1 < a:=by unfold arS at ha;omega
   clear hm ha hq hs hi x hbel ht hL hE hmm
   go_enter Tryz.func53,Tryz.ntmps53
   go_wp2_with fail
   rw [← hw0]
   clear hw0
   refine (CK.out _ X.out.two.dsk.dsk).mono ?_
   rintro e w1 ⟨rfl,hb⟩
   have B:=Lh (B.out.trans (hb.mono B.out.size))
   have X:=Lh (X.out.below hb)
   clear hb CK c0 c1 c2 c3 c4 c5 d0 d1 q0 q1 q2
   obtain ⟨c0,c1,c2,c3,c4,c5,d0,d1,q0,q1,q2⟩:=X.out.cells
   go_upto_region 5 with fail
   have hcur:Below w1.heap.size w1 w1.drew:=below_drewN (Below.refl _ _) 1
   have keepX:∀ wx,Below w1.heap.size w1 wx→wx.cell? ⟨w.heap.size + 1,0,none⟩=some (.slice D n c)∧wx.cell? ⟨w.heap.size + 1,1,none⟩=some (.slice D' n' c')∧wx.cell? ⟨w.heap.size + 2,0,none⟩=some (.int .u32 v)∧wx.cell? ⟨w.heap.size + 2,1,none⟩=some (.int .i64 a)∧wx.cell? ⟨w.heap.size + 2,2,none⟩=some (.int .u64 g):=fun wx hx=>by
    obtain ⟨_,_,_,_,_,_,d0,d1,q0,q1,q2⟩:=(X.out.below hx).cells
    exact ⟨d0,d1,q0,q1,q2⟩
   have hkX:=keepX _ hcur
   go_region_held3 (fun w'=>w'.cell? ⟨w.heap.size + 1,0,none⟩=some (.slice D n c)∧w'.cell? ⟨w.heap.size + 1,1,none⟩=some (.slice D' n' c')∧w'.cell? ⟨w.heap.size + 2,0,none⟩=some (.int .u32 v)∧w'.cell? ⟨w.heap.size + 2,1,none⟩=some (.int .i64 a)∧w'.cell? ⟨w.heap.size + 2,2,none⟩=some (.int .u64 g))
    (first | exact hkX | go_keep)
    (first
     | (go_at_call 96;with_reducible refine (RW.out _).mono ?_;rintro e w3 ⟨AR,cR,rfl,hown,hb⟩;have hcur:=hcur.trans (hb.mono hcur.size);have hkX:=keepX _ hcur)
     | (go_at_call 95;have hM:=hcur.size;with_reducible refine (PL.out AR cR _ (X.out.below hcur).two.dsk.dsk (Arg.own hown) (fun a ha=>by obtain ⟨g,e,_⟩:=owns_int_at (j:=0) hown (by decide);rw [e] at ha;injection ha with ha;subst ha;exact .inl rfl)).mono ?_;rintro e w4 ⟨AL,cL,rfl,hownL,hb⟩;have hcur:=hcur.trans (hb.mono hcur.size);have hkX:=keepX _ hcur))
   have OL:=Lh hownL
   have B:=Lh (B.out.trans (hcur.mono B.out.size))
   clear hcur hkX keepX hown hownL hb hM RW PL c0 c1 c2 c3 c4 c5 d0 d1 q0 q1 q2
   go_wp2
   go_ret2
   exact ⟨AL,cL,rfl,OL.out,B.out⟩
  ·have hE:spE P T A M W Q S C (v,a,g)=2:=(if_pos hm).trans (if_neg ha)
   have hL:spL P T A M W Q S C (v,a,g)=[]:=by
    unfold spL
    rw [hE]
    rfl
   rw [hE,hL]
   by_cases ha0:a < 0
   ·clear hm ha hq hs hi x hbel hE hL
    go_enter Tryz.func53,Tryz.ntmps53
    go_wp2_with fail
    rw [← hw0]
    clear hw0
    refine (CK.out _ X.out.two.dsk.dsk).mono ?_
    rintro e w1 ⟨rfl,hb⟩
    have B:=Lh (B.out.trans (hb.mono B.out.size))
    have X:=Lh (X.out.below hb)
    clear hb CK c0 c1 c2 c3 c4 c5 d0 d1 q0 q1 q2
    obtain ⟨c0,c1,c2,c3,c4,c5,d0,d1,q0,q1,q2⟩:=X.out.cells
    go_wp2
    go_ret2
    exact RPlan.none _ _ _ _ rfl B.out
   ·have ha1:1 < a:=by unfold arS at ha;omega
    clear hm ha hq hs hi x hbel hE hL
    go_enter Tryz.func53,Tryz.ntmps53
    go_wp2_with fail
    rw [← hw0]
    clear hw0
    refine (CK.out _ X.out.two.dsk.dsk).mono ?_
    rintro e w1 ⟨rfl,hb⟩
    have B:=Lh (B.out.trans (hb.mono B.out.size))
    have X:=Lh (X.out.below hb)
    clear hb CK c0 c1 c2 c3 c4 c5 d0 d1 q0 q1 q2
    obtain ⟨c0,c1,c2,c3,c4,c5,d0,d1,q0,q1,q2⟩:=X.out.cells
    go_wp2
    go_ret2
    exact RPlan.none _ _ _ _ rfl B.out
 ·rw [decide_eq_false hm] at CK
  have hE:spE P T A M W Q S C (v,a,g)=8:=if_neg hm
  have hL:spL P T A M W Q S C (v,a,g)=[]:=by
   unfold spL
   rw [hE]
   rfl
  rw [hE,hL]
  clear hm hq hs hi x hbel hE hL
  go_enter Tryz.func53,Tryz.ntmps53
  go_wp2_with fail
  rw [← hw0]
  clear hw0
  refine (CK.out _ X.out.two.dsk.dsk).mono ?_
  rintro e w1 ⟨rfl,hb⟩
  have B:=Lh (B.out.trans (hb.mono B.out.size))
  have X:=Lh (X.out.below hb)
  clear hb CK c0 c1 c2 c3 c4 c5 d0 d1 q0 q1 q2
  obtain ⟨c0,c1,c2,c3,c4,c5,d0,d1,q0,q1,q2⟩:=X.out.cells
  go_wp2
  go_ret2
  exact RPlan.none _ _ _ _ rfl B.out
end Go.Proofs.YtifgcfepbenpjaaGreat
