/- Texts of layers 1 to 12, joined. -/
import Derived.Test.YtifgcfepbenpjaaGreatNa23
import Derived.Deep.Cut
import Derived.Laws.Tables
import Derived.Deep.CutBlock
import Derived.Deep.CutRange
set_option maxRecDepth 100000
set_option maxHeartbeats 12800000
set_option linter.unusedVariables false
namespace Go.Proofs.YtifgcfepbenpjaaGreat
open Go.RowKit
theorem of_full (A:Option Addr) (c:Nat) (t:Txt) (w:World) (ht:Arg w .u8 A 14 c t) (hby:∀ z ∈ t,isByte z) (h:t.getD 0 0=1∧t.getD 13 0≤3):Calls Tryz.prog 100 #[.slice A 14 c] w (OfOut w t):=by
 have hlen:=ht.len
 have hcc:=ht.cap
 have hi:=raw_is hlen hby
 have IFF:=Lh (show isN t↔mayR (rawR t) from ⟨fun k=>k.2.2.2,fun k=>⟨hlen,h.1,h.2,k⟩⟩)
 obtain ⟨x,hbel⟩:=rec_box w zR
 have hbel:Below w.heap.size w (w.alloc (.cells #[.int .i64 0,.int .u32 0,.int .u32 0,.int .i64 0,.int .u8 0,.int .i64 0,.bool false,.bool false] 64)):=hbel
 have X:=Lh x
 obtain ⟨c0,c1,c2,c3,c4,c5,c6,c7⟩:=x.rec
 have f0:=x.free 0
 have f1:=x.free 1
 have f2:=x.free 2
 have f3:=x.free 3
 have f4:=x.free 4
 have f5:=x.free 5
 have f6:=x.free 6
 have f7:=x.free 7
 have B:=Lh hbel
 unfold zR at c0 c1 c2 c3 c4 c5 c6 c7 f0 f1 f2 f3 f4 f5 f6 f7
 dsimp only at c0 c1 c2 c3 c4 c5 c6 c7 f0 f1 f2 f3 f4 f5 f6 f7
 have HT:=Lh (ht.below hbel)
 obtain ⟨b,o,rfl,hc⟩:=(ht.below hbel).at_ (by decide)
 have hc14:(14:Int)≤(c:Int):=by omega
 have hbyte:=fun j=>(show 0≤t.getD j 0∧t.getD j 0 < 256 from by
  rcases Nat.lt_or_ge j t.length with k | k
  ·rw [gtD,geE k];exact hby _ (List.getElem_mem _)
  ·rw [gtD,List.getElem?_eq_none k];exact ⟨by decide,by decide⟩)
 have y1:=hbyte 1
 have y10:=hbyte 10
 have y11:=hbyte 11
 have y12:=hbyte 12
 have y13:=hbyte 13
 have t0:=hc 0 (by decide)
 have t13:=hc 13 (by decide)
 rw [Nat.add_zero] at t0
 have HC:=Lh (fun wx (hx:Below (w.alloc (.cells #[.int .i64 0,.int .u32 0,.int .u32 0,.int .i64 0,.int .u8 0,.int .i64 0,.bool false,.bool false] 64)).heap.size (w.alloc (.cells #[.int .i64 0,.int .u32 0,.int .u32 0,.int .i64 0,.int .u8 0,.int .i64 0,.bool false,.bool false] 64)) wx)=>HT.out.below hx)
 obtain ⟨v1,hv1⟩:∃ x,x=w.alloc (.cells #[.int .i64 0,.int .u32 0,.int .u32 0,.int .i64 0,.int .u8 0,.int .i64 0,.bool false,.bool false] 64):=⟨_,rfl⟩
 rw [← hv1] at HC B
 obtain ⟨V1,hV1⟩:∃ x,x=val ((t.drop 2).take 4):=⟨_,rfl⟩
 obtain ⟨V2,hV2⟩:∃ x,x=val ((t.drop 6).take 4):=⟨_,rfl⟩
 have N1:=Lh (fun wx hx=>(show Calls Tryz.prog 105 #[.slice (some ⟨b,o + 2,none⟩) 4 (c - 2)] wx (fun e w'=>e=.returned (.int .u64 V1)∧wx=w') from by rw [hV1];exact number_any (some ⟨b,o + 2,none⟩) 4 (c - 2) ((t.drop 2).take 4) wx _ ((HC.out wx hx).cut (lo:=2) (hi:=6) (by decide) (by decide)) (by rw [List.length_take,List.length_drop,hlen];decide) (by decide) (fun z hz=>hby z (List.mem_of_mem_drop (List.mem_of_mem_take hz)))))
 have N2:=Lh (fun wx hx=>(show Calls Tryz.prog 105 #[.slice (some ⟨b,o + 6,none⟩) 4 (c - 6)] wx (fun e w'=>e=.returned (.int .u64 V2)∧wx=w') from by rw [hV2];exact number_any (some ⟨b,o + 6,none⟩) 4 (c - 6) ((t.drop 6).take 4) wx _ ((HC.out wx hx).cut (lo:=6) (hi:=10) (by decide) (by decide)) (by rw [List.length_take,List.length_drop,hlen];decide) (by decide) (fun z hz=>hby z (List.mem_of_mem_drop (List.mem_of_mem_take hz)))))
 obtain ⟨x0,hx0⟩:∃ x,x=t.getD 0 0:=⟨_,rfl⟩
 obtain ⟨x1,hx1⟩:∃ x,x=t.getD 1 0:=⟨_,rfl⟩
 obtain ⟨x10,hx10⟩:∃ x,x=t.getD 10 0:=⟨_,rfl⟩
 obtain ⟨x11,hx11⟩:∃ x,x=t.getD 11 0:=⟨_,rfl⟩
 obtain ⟨x12,hx12⟩:∃ x,x=t.getD 12 0:=⟨_,rfl⟩
 obtain ⟨x13,hx13⟩:∃ x,x=t.getD 13 0:=⟨_,rfl⟩
 have keepX:∀ wx,Below v1.heap.size v1 wx→wx.cell? ⟨b,o + 1,none⟩=some (.int .u8 x1)∧wx.cell? ⟨b,o + 10,none⟩=some (.int .u8 x10)∧wx.cell? ⟨b,o + 11,none⟩=some (.int .u8 x11)∧wx.cell? ⟨b,o + 12,none⟩=some (.int .u8 x12)∧wx.cell? ⟨b,o + 13,none⟩=some (.int .u8 x13):=fun wx hx=>by
  obtain ⟨b2,o2,eb,hc2⟩:=(HC.out wx hx).at_ (by decide)
  injection eb with eb;injection eb with eb1 eb2 _;subst eb1;subst eb2
  rw [hx1,hx10,hx11,hx12,hx13]
  exact ⟨hc2 1 (by decide),hc2 10 (by decide),hc2 11 (by decide),hc2 12 (by decide),hc2 13 (by decide)⟩
 obtain ⟨q,hq⟩:∃ q,q=decide (2≤x13):=⟨_,rfl⟩
 obtain ⟨a,ha⟩:∃ q,q=decide (x13 % 2=1):=⟨_,rfl⟩
 have hraw:rawR t=⟨x1,V1,V2,x10,x11,x12,q,a⟩:=by rw [hq,ha,hx1,hV1,hV2,hx10,hx11,hx12,hx13];rfl
 rw [← hx0,← hx13] at h
 rw [← hx0] at t0
 rw [← hx13] at t13
 rw [← hx1] at y1
 rw [← hx10] at y10
 rw [← hx11] at y11
 rw [← hx12] at y12
 rw [← hx13] at y13
 rw [hraw] at IFF hi
 obtain ⟨⟨i1,i2⟩,⟨i3,i4⟩,_⟩:=hi
 dsimp only at i1 i2 i3 i4
 obtain ⟨rfl,h13⟩:=h
 have HRAW:=Lh hraw
 have e1:IntKind.i64.wrap x1=x1:=by rw [IntKind.wrap_i64];omega
 have e2:IntKind.u32.wrap V1=V1:=by rw [IntKind.wrap_u32];omega
 have e3:IntKind.u32.wrap V2=V2:=by rw [IntKind.wrap_u32];omega
 have e4:IntKind.i64.wrap x10=x10:=by rw [IntKind.wrap_i64];omega
 have e5:IntKind.i64.wrap x12=x12:=by rw [IntKind.wrap_i64];omega
 have e6:x13.tmod 2=x13 % 2:=Int.tmod_eq_emod_of_nonneg y13.1
 have e7:decide (2≤x13)=q:=hq.symm
 have e8:(x13 % 2 == 1)=a:=by rw [ha,Bool.eq_iff_iff];simp
 have hn3:¬ 3 < x13:=by omega
 have hc6:(6:Int)≤(c:Int):=by omega
 have hc10:(10:Int)≤(c:Int):=by omega
 have hne2:¬ c=2:=by omega
 have hne6:¬ c=6:=by omega
 clear ht hbel hc hby hlen hcc hraw hq ha hx0 hx1 hx10 hx11 hx12 hx13 hV1 hV2 hbyte HT x
 go_enter Tryz.func100,Tryz.ntmps100
 go_upto_region 3 with fail
 rw [← hv1]
 have HV:=Lh hv1
 clear hv1 c0 c1 c2 c3 c4 c5 c6 c7 f0 f1 f2 f3 f4 f5 f6 f7 t0 t13
 go_cut [4] from 21 to 53 (fun x wx=>∃ g,x=.pointer (some ⟨g,0,none⟩)∧Blk wx g 64 (recL ⟨x1,V1,V2,x10,x11,x12,q,a⟩)∧Below v1.heap.size v1 wx∧v1.heap.size≤g)
 case first =>
  have hcur:Below v1.heap.size v1 v1.drew:=below_drewN (Below.refl _ _) 1
  have hkX:=keepX _ hcur
  go_region_held3 (fun w'=>w'.cell? ⟨b,o + 1,none⟩=some (.int .u8 x1)∧w'.cell? ⟨b,o + 10,none⟩=some (.int .u8 x10)∧w'.cell? ⟨b,o + 11,none⟩=some (.int .u8 x11)∧w'.cell? ⟨b,o + 12,none⟩=some (.int .u8 x12)∧w'.cell? ⟨b,o + 13,none⟩=some (.int .u8 x13))
   (first | exact hkX | exact keepX _ (hcur.alloc hcur.size _) | exact keepX _ (below_drewN ((Below.refl _ _).alloc (Nat.le_refl _) _) 1) | go_keep)
   (first
    | (go_at_call 105;with_reducible refine (N1.out _ (by first | exact hcur | exact hcur.alloc hcur.size _ | exact Below.drew ((Below.refl _ _).alloc (Nat.le_refl _) _) | exact Below.alloc (Below.drew (Below.refl _ _)) (Nat.le_refl _) _)).mono ?_;rintro e w2 ⟨rfl,rfl⟩)
    | (go_at_call 105;with_reducible refine (N2.out _ (by first | exact hcur | exact hcur.alloc hcur.size _ | exact Below.drew ((Below.refl _ _).alloc (Nat.le_refl _) _) | exact Below.alloc (Below.drew (Below.refl _ _)) (Nat.le_refl _) _)).mono ?_;rintro e w2 ⟨rfl,rfl⟩))
  all_goals (go_wp2_with fail;go_meet)
  all_goals exact ⟨_,rfl,Blk.new v1 64 (recL ⟨x1,V1,V2,x10,x11,x12,q,a⟩),Below.drew ((Below.refl _ _).alloc (Nat.le_refl _) _),Nat.le_refl _⟩
 case rest =>
  obtain ⟨GY,rfl,y,hbY,hgy⟩:=hcut
  obtain ⟨w3,hw3⟩:∃ x,x=wc:=⟨_,rfl⟩
  rw [← hw3] at y hbY ⊢
  clear hw3
  have X0:=X.out
  have hX0:=HV.out
  change Blk (w.alloc (.cells #[.int .i64 0,.int .u32 0,.int .u32 0,.int .i64 0,.int .u8 0,.int .i64 0,.bool false,.bool false] 64)) _ _ _ at X0
  rw [← hX0] at X0
  clear hX0
  have hne:GY≠w.heap.size:=by have:=X0.lt;omega
  have X3:=Lh (X0.below hbY X0.lt)
  have Y:=Lh y
  have B3:=Lh (B.out.trans (hbY.mono B.out.size))
  have hlt:GY < w3.heap.size:=y.lt
  have hxl:w.heap.size < w3.heap.size:=X3.out.lt
  clear y hbY X0 keepX N1 N2 HC X B HV hbel e1 e2 e3 e4 e5 e6 e7 e8 y1 y10 y11 y12 y13 hn3 hc6 hc10 hc14 hne2 hne6 i1 i2 i3 i4 h13
  go_upto_region 4 with fail
  have hcur:Below w3.heap.size w3 w3.drew:=below_drewN (Below.refl _ _) 1
  have keepY:∀ wx,Below w3.heap.size w3 wx→wx.cell? ⟨GY,0,none⟩=some (.int .i64 x1)∧wx.cell? ⟨GY,1,none⟩=some (.int .u32 V1)∧wx.cell? ⟨GY,2,none⟩=some (.int .u32 V2)∧wx.cell? ⟨GY,3,none⟩=some (.int .i64 x10)∧wx.cell? ⟨GY,4,none⟩=some (.int .u8 x11)∧wx.cell? ⟨GY,5,none⟩=some (.int .i64 x12)∧wx.cell? ⟨GY,6,none⟩=some (.bool q)∧wx.cell? ⟨GY,7,none⟩=some (.bool a):=fun wx hx=>Blk.rec (r:=⟨x1,V1,V2,x10,x11,x12,q,a⟩) (Y.out.below hx hlt)
  have hkX:=keepY _ hcur
  by_cases hm:mayR ⟨x1,V1,V2,x10,x11,x12,q,a⟩
  ·have M:=Lh (fun wx=>mayr_yes ⟨x1,V1,V2,x10,x11,x12,q,a⟩ wx hm)
   have HM:=Lh (IFF.out.2 hm)
   clear hm
   have hHeld:=hkX
   refine wp_region_to 4 (fun w'=>w'.cell? ⟨GY,0,none⟩=some (.int .i64 x1)∧w'.cell? ⟨GY,1,none⟩=some (.int .u32 V1)∧w'.cell? ⟨GY,2,none⟩=some (.int .u32 V2)∧w'.cell? ⟨GY,3,none⟩=some (.int .i64 x10)∧w'.cell? ⟨GY,4,none⟩=some (.int .u8 x11)∧w'.cell? ⟨GY,5,none⟩=some (.int .i64 x12)∧w'.cell? ⟨GY,6,none⟩=some (.bool q)∧w'.cell? ⟨GY,7,none⟩=some (.bool a)) (by kernel_rfl) ?_
   refine wpAnyG_takeF (i:=0) (v:=?_) rfl (by kernel_rfl) (by kernel_rfl) (by kernel_rfl) (by kernel_rfl) (by kernel_rfl) rfl (fun _ _ _ h=>h) (Or.inl ⟨by rfl,?_⟩) hHeld ?_
   rotate_left
   ·(intro w' hSw;(try dsimp only at hSw);go_simp;(try with_reducible rfl))
   try simp only [Act.put,stA,scZ,scS,List.getElem_toArray,List.getElem_cons_zero]
   refine wpAnyG_takeF (i:=1) (v:=?_) rfl (by kernel_rfl) (by kernel_rfl) (by kernel_rfl) (by kernel_rfl) (by kernel_rfl) rfl (fun _ _ _ h=>h) (Or.inl ⟨by rfl,?_⟩) hHeld ?_
   rotate_left
   ·(intro w' hSw;(try dsimp only at hSw);go_simp;(try with_reducible rfl))
   try simp only [Act.put,stA,scZ,scS,List.getElem_toArray,List.getElem_cons_zero,List.getElem_cons_succ]
   refine wpAnyG_one (i:=2) (by kernel_rfl) rfl (fun K hK=>?_)
   go_simp
   go_at_call 145
   refine (M.out _).mono ?_
   rintro e wM ⟨rfl,hb⟩
   have hcur:=hcur.trans (hb.mono hcur.size)
   refine hK.out _ _ (fun _=>keepY _ hcur) (fun hHeld=>?_)
   have hHeld:=hHeld (by decide)
   clear hK K
   try simp only [Act.put,stA,scZ,scS,List.getElem_toArray,List.getElem_cons_zero,List.getElem_cons_succ]
   have hXM:=X3.out.below hcur hxl
   have BM:=Lh (B3.out.trans (hcur.mono B3.out.size))
   refine wpAnyG_one (i:=3) (by kernel_rfl) rfl (fun K hK=>?_)
   rw [if_pos (by rfl)]
   refine wp_store_row 64 (.tmp 2) (.tmp 54) rfl w.heap.size (recL ⟨x1,V1,V2,x10,x11,x12,q,a⟩).toArray rfl rfl 64 _ hXM (by kernel_rfl) rfl (by simp [recL,Value.oneCell']) ?_
   have hz:Blk (wM.setRow w.heap.size (recL ⟨x1,V1,V2,x10,x11,x12,q,a⟩).toArray) w.heap.size 64 (recL ⟨x1,V1,V2,x10,x11,x12,q,a⟩):=setRow_heap wM w.heap.size _ _ _ _ hXM
   have BF:=Lh (below_setRow BM.out (Nat.le_refl _) (recL ⟨x1,V1,V2,x10,x11,x12,q,a⟩).toArray)
   have hHeld2:(wM.setRow w.heap.size (recL ⟨x1,V1,V2,x10,x11,x12,q,a⟩).toArray).cell? ⟨GY,0,none⟩=some (.int .i64 x1)∧(wM.setRow w.heap.size (recL ⟨x1,V1,V2,x10,x11,x12,q,a⟩).toArray).cell? ⟨GY,1,none⟩=some (.int .u32 V1)∧(wM.setRow w.heap.size (recL ⟨x1,V1,V2,x10,x11,x12,q,a⟩).toArray).cell? ⟨GY,2,none⟩=some (.int .u32 V2)∧(wM.setRow w.heap.size (recL ⟨x1,V1,V2,x10,x11,x12,q,a⟩).toArray).cell? ⟨GY,3,none⟩=some (.int .i64 x10)∧(wM.setRow w.heap.size (recL ⟨x1,V1,V2,x10,x11,x12,q,a⟩).toArray).cell? ⟨GY,4,none⟩=some (.int .u8 x11)∧(wM.setRow w.heap.size (recL ⟨x1,V1,V2,x10,x11,x12,q,a⟩).toArray).cell? ⟨GY,5,none⟩=some (.int .i64 x12)∧(wM.setRow w.heap.size (recL ⟨x1,V1,V2,x10,x11,x12,q,a⟩).toArray).cell? ⟨GY,6,none⟩=some (.bool q)∧(wM.setRow w.heap.size (recL ⟨x1,V1,V2,x10,x11,x12,q,a⟩).toArray).cell? ⟨GY,7,none⟩=some (.bool a):=by
    obtain ⟨k0,k1,k2,k3,k4,k5,k6,k7⟩:=hHeld
    exact ⟨(cell_setRow_other _ _ _ _ hne).trans k0,(cell_setRow_other _ _ _ _ hne).trans k1,(cell_setRow_other _ _ _ _ hne).trans k2,(cell_setRow_other _ _ _ _ hne).trans k3,(cell_setRow_other _ _ _ _ hne).trans k4,(cell_setRow_other _ _ _ _ hne).trans k5,(cell_setRow_other _ _ _ _ hne).trans k6,(cell_setRow_other _ _ _ _ hne).trans k7⟩
   refine hK.out _ _ (fun _=>hHeld2) (fun hHeld=>?_)
   clear hK K hHeld hHeld2
   try simp only [Act.put,List.getElem_toArray,List.getElem_cons_zero,List.getElem_cons_succ]
   refine wpAnyG_one (i:=4) (by kernel_rfl) rfl (fun K hK=>?_)
   go_simp
   refine hK.out _ _ (fun h=>absurd rfl h) (fun _=>?_)
   clear hK K
   refine wpAnyG_done (by kernel_rfl) ?_ _
   obtain ⟨w5,hw5⟩:∃ x,x=wM.setRow w.heap.size (recL ⟨x1,V1,V2,x10,x11,x12,q,a⟩).toArray:=⟨_,rfl⟩
   rw [← hw5] at hz BF
   rw [← hw5]
   clear hw5
   obtain ⟨z0,z1,z2,z3,z4,z5,z6,z7⟩:=Blk.rec (r:=⟨x1,V1,V2,x10,x11,x12,q,a⟩) hz
   clear hz hXM hcur keepY hkX
   go_wp2
   refine bodyPost_ret (v:=.tuple #[recV ⟨x1,V1,V2,x10,x11,x12,q,a⟩,.bool true]) ?_ rfl ⟨.inl ⟨HM.out,by rw [HRAW.out]⟩,BF.out⟩
   simp [results,Tryz.f100,go_sem,z0,z1,z2,z3,z4,z5,z6,z7]
  ·have M:=Lh (fun wx=>mayr_no ⟨x1,V1,V2,x10,x11,x12,q,a⟩ wx hm)
   have HM:=Lh (show ¬ isN t from fun k=>hm (IFF.out.1 k))
   clear hm
   have hHeld:=hkX
   refine wp_region_to 4 (fun w'=>w'.cell? ⟨GY,0,none⟩=some (.int .i64 x1)∧w'.cell? ⟨GY,1,none⟩=some (.int .u32 V1)∧w'.cell? ⟨GY,2,none⟩=some (.int .u32 V2)∧w'.cell? ⟨GY,3,none⟩=some (.int .i64 x10)∧w'.cell? ⟨GY,4,none⟩=some (.int .u8 x11)∧w'.cell? ⟨GY,5,none⟩=some (.int .i64 x12)∧w'.cell? ⟨GY,6,none⟩=some (.bool q)∧w'.cell? ⟨GY,7,none⟩=some (.bool a)) (by kernel_rfl) ?_
   refine wpAnyG_takeF (i:=0) (v:=?_) rfl (by kernel_rfl) (by kernel_rfl) (by kernel_rfl) (by kernel_rfl) (by kernel_rfl) rfl (fun _ _ _ h=>h) (Or.inl ⟨by rfl,?_⟩) hHeld ?_
   rotate_left
   ·(intro w' hSw;(try dsimp only at hSw);go_simp;(try with_reducible rfl))
   try simp only [Act.put,stA,scZ,scS,List.getElem_toArray,List.getElem_cons_zero]
   refine wpAnyG_takeF (i:=1) (v:=?_) rfl (by kernel_rfl) (by kernel_rfl) (by kernel_rfl) (by kernel_rfl) (by kernel_rfl) rfl (fun _ _ _ h=>h) (Or.inl ⟨by rfl,?_⟩) hHeld ?_
   rotate_left
   ·(intro w' hSw;(try dsimp only at hSw);go_simp;(try with_reducible rfl))
   try simp only [Act.put,stA,scZ,scS,List.getElem_toArray,List.getElem_cons_zero,List.getElem_cons_succ]
   refine wpAnyG_one (i:=2) (by kernel_rfl) rfl (fun K hK=>?_)
   go_simp
   go_at_call 145
   refine (M.out _).mono ?_
   rintro e wM ⟨rfl,hb⟩
   have hcur:=hcur.trans (hb.mono hcur.size)
   refine hK.out _ _ (fun _=>keepY _ hcur) (fun hHeld=>?_)
   have hHeld:=hHeld (by decide)
   clear hK K
   try simp only [Act.put,stA,scZ,scS,List.getElem_toArray,List.getElem_cons_zero,List.getElem_cons_succ]
   have hXM:=X3.out.below hcur hxl
   have BM:=Lh (B3.out.trans (hcur.mono B3.out.size))
   refine wpAnyG_one (i:=3) (by kernel_rfl) rfl (fun K hK=>?_)
   rw [if_pos (by rfl)]
   refine wp_store_row 64 (.tmp 2) (.tmp 54) rfl w.heap.size (recL ⟨x1,V1,V2,x10,x11,x12,q,a⟩).toArray rfl rfl 64 _ hXM (by kernel_rfl) rfl (by simp [recL,Value.oneCell']) ?_
   have hz:Blk (wM.setRow w.heap.size (recL ⟨x1,V1,V2,x10,x11,x12,q,a⟩).toArray) w.heap.size 64 (recL ⟨x1,V1,V2,x10,x11,x12,q,a⟩):=setRow_heap wM w.heap.size _ _ _ _ hXM
   have BF:=Lh (below_setRow BM.out (Nat.le_refl _) (recL ⟨x1,V1,V2,x10,x11,x12,q,a⟩).toArray)
   have hHeld2:(wM.setRow w.heap.size (recL ⟨x1,V1,V2,x10,x11,x12,q,a⟩).toArray).cell? ⟨GY,0,none⟩=some (.int .i64 x1)∧(wM.setRow w.heap.size (recL ⟨x1,V1,V2,x10,x11,x12,q,a⟩).toArray).cell? ⟨GY,1,none⟩=some (.int .u32 V1)∧(wM.setRow w.heap.size (recL ⟨x1,V1,V2,x10,x11,x12,q,a⟩).toArray).cell? ⟨GY,2,none⟩=some (.int .u32 V2)∧(wM.setRow w.heap.size (recL ⟨x1,V1,V2,x10,x11,x12,q,a⟩).toArray).cell? ⟨GY,3,none⟩=some (.int .i64 x10)∧(wM.setRow w.heap.size (recL ⟨x1,V1,V2,x10,x11,x12,q,a⟩).toArray).cell? ⟨GY,4,none⟩=some (.int .u8 x11)∧(wM.setRow w.heap.size (recL ⟨x1,V1,V2,x10,x11,x12,q,a⟩).toArray).cell? ⟨GY,5,none⟩=some (.int .i64 x12)∧(wM.setRow w.heap.size (recL ⟨x1,V1,V2,x10,x11,x12,q,a⟩).toArray).cell? ⟨GY,6,none⟩=some (.bool q)∧(wM.setRow w.heap.size (recL ⟨x1,V1,V2,x10,x11,x12,q,a⟩).toArray).cell? ⟨GY,7,none⟩=some (.bool a):=by
    obtain ⟨k0,k1,k2,k3,k4,k5,k6,k7⟩:=hHeld
    exact ⟨(cell_setRow_other _ _ _ _ hne).trans k0,(cell_setRow_other _ _ _ _ hne).trans k1,(cell_setRow_other _ _ _ _ hne).trans k2,(cell_setRow_other _ _ _ _ hne).trans k3,(cell_setRow_other _ _ _ _ hne).trans k4,(cell_setRow_other _ _ _ _ hne).trans k5,(cell_setRow_other _ _ _ _ hne).trans k6,(cell_setRow_other _ _ _ _ hne).trans k7⟩
   refine hK.out _ _ (fun _=>hHeld2) (fun hHeld=>?_)
   clear hK K hHeld hHeld2
   try simp only [Act.put,List.getElem_toArray,List.getElem_cons_zero,List.getElem_cons_succ]
   refine wpAnyG_one (i:=4) (by kernel_rfl) rfl (fun K hK=>?_)
   go_simp
   refine hK.out _ _ (fun h=>absurd rfl h) (fun _=>?_)
   clear hK K
   refine wpAnyG_done (by kernel_rfl) ?_ _
   obtain ⟨w5,hw5⟩:∃ x,x=wM.setRow w.heap.size (recL ⟨x1,V1,V2,x10,x11,x12,q,a⟩).toArray:=⟨_,rfl⟩
   rw [← hw5] at hz BF
   rw [← hw5]
   clear hw5
   obtain ⟨z0,z1,z2,z3,z4,z5,z6,z7⟩:=Blk.rec (r:=⟨x1,V1,V2,x10,x11,x12,q,a⟩) hz
   clear hz hXM hcur keepY hkX
   go_wp2
   refine bodyPost_ret (v:=.tuple #[recV ⟨x1,V1,V2,x10,x11,x12,q,a⟩,.bool false]) ?_ rfl ⟨.inr ⟨HM.out,⟨x1,V1,V2,x10,x11,x12,q,a⟩,rfl⟩,BF.out⟩
   simp [results,Tryz.f100,go_sem,z0,z1,z2,z3,z4,z5,z6,z7]
end Go.Proofs.YtifgcfepbenpjaaGreat
