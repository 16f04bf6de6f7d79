/- Texts of layers 1 to 12, joined. -/
import Derived.Test.YtifgcfepbenpjaaGreatNa19
set_option maxRecDepth 100000
set_option maxHeartbeats 12800000
set_option linter.unusedVariables false
namespace Go.Proofs.YtifgcfepbenpjaaGreat
open Go.RowKit
theorem wrapw64 (v:Int) (h0:0≤v) (h:v < 18446744073709551616):IntKind.u64.wrap v=v:=by simp [IntKind.wrap_u64];omega
theorem rrow11_any (r:Rc) (w:World) (hi:isR r) (hm:mayR r):Calls Tryz.prog 147 #[recV r] w fun e w'=>∃ A c,e=.returned (.slice A 14 c)∧w'.ownsRow w.heap.size 5 1 (.slice A 14 c) 14 (ints .u8 (recT r))∧Below w.heap.size w w':=by
 have hT:recT r=rowTo (numsR r) sz8R 8:=rfl
 have hl:=recT_length r
 obtain ⟨⟨m1,m2,m3,m4,m5,m6,m7,m8⟩,⟨m9,m10⟩,_⟩:=hm
 obtain ⟨⟨i1,i2⟩,⟨i3,i4⟩,_⟩:=hi
 have hfl:=flagR_le r
 have hw:∀ z ∈ numsR r,isWord z:=by
  intro z hz
  unfold numsR at hz
  simp only [List.mem_cons,List.not_mem_nil,or_false] at hz
  unfold isWord
  rcases hz with rfl | rfl | rfl | rfl | rfl | rfl | rfl | rfl <;> omega
 obtain ⟨p,b,e,l,h,f,q,a⟩:=r
 dsimp only at m1 m2 m3 m4 m5 m6 m7 m8 m9 m10 i1 i2 i3 i4
 have e1:IntKind.u64.wrap p=p:=wrapw64 p m1 (by omega)
 have e2:IntKind.u64.wrap b=b:=wrapw64 b (by omega) (by omega)
 have e3:IntKind.u64.wrap e=e:=wrapw64 e (by omega) (by omega)
 have e4:IntKind.u64.wrap l=l:=wrapw64 l m5 (by omega)
 have e5:IntKind.u64.wrap h=h:=wrapw64 h (by omega) (by omega)
 have e6:IntKind.u64.wrap f=f:=wrapw64 f m7 (by omega)
 obtain ⟨T,hTT⟩:∃ T,T=recT ⟨p,b,e,l,h,f,q,a⟩:=⟨_,rfl⟩
 rw [← hTT] at hl ⊢
 rw [← hTT] at hT
 obtain ⟨x,hbel⟩:=rec_box w ⟨p,b,e,l,h,f,q,a⟩
 obtain ⟨c0,c1,c2,c3,c4,c5,c6,c7⟩:=x.rec
 obtain ⟨w0,hw0⟩:∃ x,x=w.alloc (.cells #[.int .i64 p,.int .u32 b,.int .u32 e,.int .i64 l,.int .u8 h,.int .i64 f,.bool q,.bool a] 64):=⟨_,rfl⟩
 dsimp only at c0 c1 c2 c3 c4 c5 c6 c7
 clear m1 m2 m3 m4 m5 m6 m7 m8 m9 m10 i1 i2 i3 i4 x hTT
 cases q <;> cases a
 ·have hb1:Below w0.heap.size w0 (w0.alloc (.cells #[.int .u64 1,.int .u64 p,.int .u64 b,.int .u64 e,.int .u64 l,.int .u64 h,.int .u64 f,.int .u64 0] 27)):=(Below.refl _ _).alloc (Nat.le_refl _) _
  obtain ⟨w1,hw1⟩:∃ x,x=w0.alloc (.cells #[.int .u64 1,.int .u64 p,.int .u64 b,.int .u64 e,.int .u64 l,.int .u64 h,.int .u64 f,.int .u64 0] 27):=⟨_,rfl⟩
  have hL:=lit_row w0 27 .u64 [1,p,b,e,l,h,f,0] _ w0.heap.size w1.heap.size rfl rfl (by rw [hw1];simp)
  change Seq (w0.alloc (.cells #[.int .u64 1,.int .u64 p,.int .u64 b,.int .u64 e,.int .u64 l,.int .u64 h,.int .u64 f,.int .u64 0] 27)) _ _ _ at hL
  rw [← hw1] at hb1 hL
  have hb2:Below w1.heap.size w1 (w1.alloc (.cells #[.int .i64 1,.int .i64 1,.int .i64 4,.int .i64 4,.int .i64 1,.int .i64 1,.int .i64 1,.int .i64 1] 3)):=(Below.refl _ _).alloc (Nat.le_refl _) _
  have hZ:=lit_row w1 3 .i64 sz8R _ w1.heap.size (w1.alloc (.cells #[.int .i64 1,.int .i64 1,.int .i64 4,.int .i64 4,.int .i64 1,.int .i64 1,.int .i64 1,.int .i64 1] 3)).heap.size rfl rfl (by simp)
  change Seq (w1.alloc (.cells #[.int .i64 1,.int .i64 1,.int .i64 4,.int .i64 4,.int .i64 1,.int .i64 1,.int .i64 1,.int .i64 1] 3)) _ _ _ at hZ
  obtain ⟨w2,hw2⟩:∃ x,x=w1.alloc (.cells #[.int .i64 1,.int .i64 1,.int .i64 4,.int .i64 4,.int .i64 1,.int .i64 1,.int .i64 1,.int .i64 1] 3):=⟨_,rfl⟩
  rw [← hw2] at hb2 hZ
  have hL2:=(hL.below hb2).more hb2.size
  have RW:=Lh (row_any (some ⟨w0.heap.size,0,none⟩) (some ⟨w1.heap.size,0,none⟩) 8 8 8 [1,p,b,e,l,h,f,0] sz8R w2 hZ okB_sz8R hL2 rfl rfl hw)
  have hs0:w0.heap.size=w.heap.size + 1:=by rw [hw0];simp
  have hs1:w1.heap.size=w.heap.size + 1 + 1:=by rw [hw1,World.size_alloc,hs0]
  have HB:=Lh (show Below w.heap.size w w2 by
   rw [← hw0] at hbel
   exact (hbel.trans (hb1.mono hbel.size)).trans (hb2.mono (by have:=hbel.size;have:=hb1.size;omega)))
  rw [show rowTo [1,p,b,e,l,h,f,0] sz8R 8=T from hT.symm,hs0,hs1] at RW
  clear hL hL2 hZ hb1 hb2 hbel hs0 hs1 hfl hw hT
  go_enter Tryz.func147,Tryz.ntmps147
  go_wp2_with fail
  rw [← hw0,← hw1,← hw2]
  refine RW.out.mono ?_
  rintro e w3 ⟨A3,c3,rfl,hown,hb3⟩
  rw [hl] at hown ⊢
  have B:=Lh (HB.out.trans (hb3.mono HB.out.size))
  have O:=Lh (owns_base hown HB.out.size)
  clear hown hb3 RW hw0 hw1 hw2 c0 c1 c2 c4 c5 c6 c7
  go_wp2
  go_ret
  exact ⟨A3,c3,rfl,O.out,B.out⟩
 ·have hb1:Below w0.heap.size w0 (w0.alloc (.cells #[.int .u64 1,.int .u64 p,.int .u64 b,.int .u64 e,.int .u64 l,.int .u64 h,.int .u64 f,.int .u64 1] 27)):=(Below.refl _ _).alloc (Nat.le_refl _) _
  obtain ⟨w1,hw1⟩:∃ x,x=w0.alloc (.cells #[.int .u64 1,.int .u64 p,.int .u64 b,.int .u64 e,.int .u64 l,.int .u64 h,.int .u64 f,.int .u64 1] 27):=⟨_,rfl⟩
  have hL:=lit_row w0 27 .u64 [1,p,b,e,l,h,f,1] _ w0.heap.size w1.heap.size rfl rfl (by rw [hw1];simp)
  change Seq (w0.alloc (.cells #[.int .u64 1,.int .u64 p,.int .u64 b,.int .u64 e,.int .u64 l,.int .u64 h,.int .u64 f,.int .u64 1] 27)) _ _ _ at hL
  rw [← hw1] at hb1 hL
  have hb2:Below w1.heap.size w1 (w1.alloc (.cells #[.int .i64 1,.int .i64 1,.int .i64 4,.int .i64 4,.int .i64 1,.int .i64 1,.int .i64 1,.int .i64 1] 3)):=(Below.refl _ _).alloc (Nat.le_refl _) _
  have hZ:=lit_row w1 3 .i64 sz8R _ w1.heap.size (w1.alloc (.cells #[.int .i64 1,.int .i64 1,.int .i64 4,.int .i64 4,.int .i64 1,.int .i64 1,.int .i64 1,.int .i64 1] 3)).heap.size rfl rfl (by simp)
  change Seq (w1.alloc (.cells #[.int .i64 1,.int .i64 1,.int .i64 4,.int .i64 4,.int .i64 1,.int .i64 1,.int .i64 1,.int .i64 1] 3)) _ _ _ at hZ
  obtain ⟨w2,hw2⟩:∃ x,x=w1.alloc (.cells #[.int .i64 1,.int .i64 1,.int .i64 4,.int .i64 4,.int .i64 1,.int .i64 1,.int .i64 1,.int .i64 1] 3):=⟨_,rfl⟩
  rw [← hw2] at hb2 hZ
  have hL2:=(hL.below hb2).more hb2.size
  have RW:=Lh (row_any (some ⟨w0.heap.size,0,none⟩) (some ⟨w1.heap.size,0,none⟩) 8 8 8 [1,p,b,e,l,h,f,1] sz8R w2 hZ okB_sz8R hL2 rfl rfl hw)
  have hs0:w0.heap.size=w.heap.size + 1:=by rw [hw0];simp
  have hs1:w1.heap.size=w.heap.size + 1 + 1:=by rw [hw1,World.size_alloc,hs0]
  have HB:=Lh (show Below w.heap.size w w2 by
   rw [← hw0] at hbel
   exact (hbel.trans (hb1.mono hbel.size)).trans (hb2.mono (by have:=hbel.size;have:=hb1.size;omega)))
  rw [show rowTo [1,p,b,e,l,h,f,1] sz8R 8=T from hT.symm,hs0,hs1] at RW
  clear hL hL2 hZ hb1 hb2 hbel hs0 hs1 hfl hw hT
  go_enter Tryz.func147,Tryz.ntmps147
  go_wp2_with fail
  rw [← hw0,← hw1,← hw2]
  refine RW.out.mono ?_
  rintro e w3 ⟨A3,c3,rfl,hown,hb3⟩
  rw [hl] at hown ⊢
  have B:=Lh (HB.out.trans (hb3.mono HB.out.size))
  have O:=Lh (owns_base hown HB.out.size)
  clear hown hb3 RW hw0 hw1 hw2 c0 c1 c2 c4 c5 c6 c7
  go_wp2
  go_ret
  exact ⟨A3,c3,rfl,O.out,B.out⟩
 ·have hb1:Below w0.heap.size w0 (w0.alloc (.cells #[.int .u64 1,.int .u64 p,.int .u64 b,.int .u64 e,.int .u64 l,.int .u64 h,.int .u64 f,.int .u64 2] 27)):=(Below.refl _ _).alloc (Nat.le_refl _) _
  obtain ⟨w1,hw1⟩:∃ x,x=w0.alloc (.cells #[.int .u64 1,.int .u64 p,.int .u64 b,.int .u64 e,.int .u64 l,.int .u64 h,.int .u64 f,.int .u64 2] 27):=⟨_,rfl⟩
  have hL:=lit_row w0 27 .u64 [1,p,b,e,l,h,f,2] _ w0.heap.size w1.heap.size rfl rfl (by rw [hw1];simp)
  change Seq (w0.alloc (.cells #[.int .u64 1,.int .u64 p,.int .u64 b,.int .u64 e,.int .u64 l,.int .u64 h,.int .u64 f,.int .u64 2] 27)) _ _ _ at hL
  rw [← hw1] at hb1 hL
  have hb2:Below w1.heap.size w1 (w1.alloc (.cells #[.int .i64 1,.int .i64 1,.int .i64 4,.int .i64 4,.int .i64 1,.int .i64 1,.int .i64 1,.int .i64 1] 3)):=(Below.refl _ _).alloc (Nat.le_refl _) _
  have hZ:=lit_row w1 3 .i64 sz8R _ w1.heap.size (w1.alloc (.cells #[.int .i64 1,.int .i64 1,.int .i64 4,.int .i64 4,.int .i64 1,.int .i64 1,.int .i64 1,.int .i64 1] 3)).heap.size rfl rfl (by simp)
  change Seq (w1.alloc (.cells #[.int .i64 1,.int .i64 1,.int .i64 4,.int .i64 4,.int .i64 1,.int .i64 1,.int .i64 1,.int .i64 1] 3)) _ _ _ at hZ
  obtain ⟨w2,hw2⟩:∃ x,x=w1.alloc (.cells #[.int .i64 1,.int .i64 1,.int .i64 4,.int .i64 4,.int .i64 1,.int .i64 1,.int .i64 1,.int .i64 1] 3):=⟨_,rfl⟩
  rw [← hw2] at hb2 hZ
  have hL2:=(hL.below hb2).more hb2.size
  have RW:=Lh (row_any (some ⟨w0.heap.size,0,none⟩) (some ⟨w1.heap.size,0,none⟩) 8 8 8 [1,p,b,e,l,h,f,2] sz8R w2 hZ okB_sz8R hL2 rfl rfl hw)
  have hs0:w0.heap.size=w.heap.size + 1:=by rw [hw0];simp
  have hs1:w1.heap.size=w.heap.size + 1 + 1:=by rw [hw1,World.size_alloc,hs0]
  have HB:=Lh (show Below w.heap.size w w2 by
   rw [← hw0] at hbel
   exact (hbel.trans (hb1.mono hbel.size)).trans (hb2.mono (by have:=hbel.size;have:=hb1.size;omega)))
  rw [show rowTo [1,p,b,e,l,h,f,2] sz8R 8=T from hT.symm,hs0,hs1] at RW
  clear hL hL2 hZ hb1 hb2 hbel hs0 hs1 hfl hw hT
  go_enter Tryz.func147,Tryz.ntmps147
  go_wp2_with fail
  rw [← hw0,← hw1,← hw2]
  refine RW.out.mono ?_
  rintro e w3 ⟨A3,c3,rfl,hown,hb3⟩
  rw [hl] at hown ⊢
  have B:=Lh (HB.out.trans (hb3.mono HB.out.size))
  have O:=Lh (owns_base hown HB.out.size)
  clear hown hb3 RW hw0 hw1 hw2 c0 c1 c2 c4 c5 c6 c7
  go_wp2
  go_ret
  exact ⟨A3,c3,rfl,O.out,B.out⟩
 ·have hb1:Below w0.heap.size w0 (w0.alloc (.cells #[.int .u64 1,.int .u64 p,.int .u64 b,.int .u64 e,.int .u64 l,.int .u64 h,.int .u64 f,.int .u64 3] 27)):=(Below.refl _ _).alloc (Nat.le_refl _) _
  obtain ⟨w1,hw1⟩:∃ x,x=w0.alloc (.cells #[.int .u64 1,.int .u64 p,.int .u64 b,.int .u64 e,.int .u64 l,.int .u64 h,.int .u64 f,.int .u64 3] 27):=⟨_,rfl⟩
  have hL:=lit_row w0 27 .u64 [1,p,b,e,l,h,f,3] _ w0.heap.size w1.heap.size rfl rfl (by rw [hw1];simp)
  change Seq (w0.alloc (.cells #[.int .u64 1,.int .u64 p,.int .u64 b,.int .u64 e,.int .u64 l,.int .u64 h,.int .u64 f,.int .u64 3] 27)) _ _ _ at hL
  rw [← hw1] at hb1 hL
  have hb2:Below w1.heap.size w1 (w1.alloc (.cells #[.int .i64 1,.int .i64 1,.int .i64 4,.int .i64 4,.int .i64 1,.int .i64 1,.int .i64 1,.int .i64 1] 3)):=(Below.refl _ _).alloc (Nat.le_refl _) _
  have hZ:=lit_row w1 3 .i64 sz8R _ w1.heap.size (w1.alloc (.cells #[.int .i64 1,.int .i64 1,.int .i64 4,.int .i64 4,.int .i64 1,.int .i64 1,.int .i64 1,.int .i64 1] 3)).heap.size rfl rfl (by simp)
  change Seq (w1.alloc (.cells #[.int .i64 1,.int .i64 1,.int .i64 4,.int .i64 4,.int .i64 1,.int .i64 1,.int .i64 1,.int .i64 1] 3)) _ _ _ at hZ
  obtain ⟨w2,hw2⟩:∃ x,x=w1.alloc (.cells #[.int .i64 1,.int .i64 1,.int .i64 4,.int .i64 4,.int .i64 1,.int .i64 1,.int .i64 1,.int .i64 1] 3):=⟨_,rfl⟩
  rw [← hw2] at hb2 hZ
  have hL2:=(hL.below hb2).more hb2.size
  have RW:=Lh (row_any (some ⟨w0.heap.size,0,none⟩) (some ⟨w1.heap.size,0,none⟩) 8 8 8 [1,p,b,e,l,h,f,3] sz8R w2 hZ okB_sz8R hL2 rfl rfl hw)
  have hs0:w0.heap.size=w.heap.size + 1:=by rw [hw0];simp
  have hs1:w1.heap.size=w.heap.size + 1 + 1:=by rw [hw1,World.size_alloc,hs0]
  have HB:=Lh (show Below w.heap.size w w2 by
   rw [← hw0] at hbel
   exact (hbel.trans (hb1.mono hbel.size)).trans (hb2.mono (by have:=hbel.size;have:=hb1.size;omega)))
  rw [show rowTo [1,p,b,e,l,h,f,3] sz8R 8=T from hT.symm,hs0,hs1] at RW
  clear hL hL2 hZ hb1 hb2 hbel hs0 hs1 hfl hw hT
  go_enter Tryz.func147,Tryz.ntmps147
  go_wp2_with fail
  rw [← hw0,← hw1,← hw2]
  refine RW.out.mono ?_
  rintro e w3 ⟨A3,c3,rfl,hown,hb3⟩
  rw [hl] at hown ⊢
  have B:=Lh (HB.out.trans (hb3.mono HB.out.size))
  have O:=Lh (owns_base hown HB.out.size)
  clear hown hb3 RW hw0 hw1 hw2 c0 c1 c2 c4 c5 c6 c7
  go_wp2
  go_ret
  exact ⟨A3,c3,rfl,O.out,B.out⟩
end Go.Proofs.YtifgcfepbenpjaaGreat
