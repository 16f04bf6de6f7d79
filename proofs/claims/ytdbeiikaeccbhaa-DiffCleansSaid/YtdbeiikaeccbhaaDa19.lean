/- Texts of the layers below, joined. -/
import Derived.Test.YtdbeiikaeccbhaaDa14
import Derived.Test.YtdbeiikaeccbhaaDa15
import Derived.Deep.Cut
import Derived.Deep.RegionWith
import Derived.Lib.QuoteBits
set_option maxRecDepth 100000
set_option maxHeartbeats 12800000
set_option linter.unusedVariables false
namespace Go.Proofs.Ytdbeiikaeccbhaa
open Go.RowKit
def newSec (s:Sec) (p:Pnd) (f:Int):Sec:=if f=1 then (false,p.2) else if f=2 then (true,noughts) else s
theorem byFate_new (Q:List Sec) (p:Pnd) (f:Int) (a:Nat) (ha:p.1=a) (hl:a < Q.length):byFate Q p f=Q.set a (newSec (Q.getD a (false,[])) p (f % 3)):=by
 unfold byFate newSec
 rw [ha,Int.toNat_natCast]
 by_cases h1:f % 3=1
 ·rw [if_pos h1,if_pos h1]
 ·rw [if_neg h1,if_neg h1]
  by_cases h2:f % 3=2
  ·rw [if_pos h2,if_pos h2]
  ·rw [if_neg h2,if_neg h2,gtD,geE hl,Option.getD_some]
   simp
theorem behindK_over (S:List Sec) (C:List Pnd) (F:List Int):∀ j,behindK S C F (F.length + j)=behindK S C F F.length:=fun j=>by
 induction j with
 | zero=>rfl
 | succ j ih =>
  rw [← Nat.add_assoc]
  show byFate (behindK S C F (F.length + j)) (C.getD (F.length + j) (0,[])) (F.getD (F.length + j) 0)=_
  rw [show F.getD (F.length + j) 0=0 by simp [List.getD_eq_getElem?_getD]]
  have:∀ Q p,byFate Q p 0=Q:=fun Q p=>by unfold byFate;simp
  rw [this,ih]
theorem behindS_all (S:List Sec) (C:List Pnd) (F:List Int):behindS S C F=behindK S C F C.length:=by
 unfold behindS
 rcases Nat.le_total C.length F.length with h | h
 ·rw [Nat.min_eq_left h]
 ·rw [Nat.min_eq_right h]
  obtain ⟨j,hj⟩:∃ j,C.length=F.length + j:=⟨C.length - F.length,by omega⟩
  rw [hj,behindK_over]
theorem left_gen (fv:Int) (h0:0≤fv) (h3:fv < 3) (base:Nat) (s:Sec) (p:Pnd) (As:Option Addr) (ns cs:Nat) (Ap:Option Addr) (np cp:Nat) (w:World) (hs:OwnTxt w base As ns cs s.2) (hp:OwnTxt w base Ap np cp p.2) (hb:base≤w.heap.size) :
  Calls Try.prog 73 #[.agg #[.slice As ns cs,.bool s.1],.agg #[.int .i64 p.1,.slice Ap np cp],.int .u8 fv] w fun e w'=>∃ X nx cx,e=.returned (.agg #[.slice X nx cx,.bool (newSec s p fv).1])∧OwnTxt w' base X nx cx (newSec s p fv).2∧Below w.heap.size w w':=by
 have h:fv=0∨fv=1∨fv=2:=by omega
 rcases h with rfl | rfl | rfl
 ·exact (left0 As ns cs s.1 p.1 Ap np cp w).mono fun e w' ⟨e1,hb1⟩=>⟨As,ns,cs,e1,hs.below hb1,hb1⟩
 ·exact (left1 As ns cs s.1 p.1 Ap np cp w).mono fun e w' ⟨e1,hb1⟩=>⟨Ap,np,cp,e1,hp.below hb1,hb1⟩
 ·exact (left2 As ns cs s.1 p.1 Ap np cp w).mono fun e w' ⟨g,e1,ho,hb1⟩=>⟨_,_,_,e1,OwnTxt.of (owns_base ho hb),hb1⟩
theorem newSec_byte {s:Sec} {p:Pnd} {f:Int} (hs:∀ z ∈ s.2,isByte z) (hp:∀ z ∈ p.2,isByte z):∀ z ∈ (newSec s p f).2,isByte z:=by
 unfold newSec
 split
 ·exact hp
 ·split
  ·exact noughts_bytes
  ·exact hs
theorem OwnPnds.secs_set {w:World} {base b:Nat} {A:Option Addr} {n c m d g:Nat} {S:List Sec} {C:List Pnd} (h:OwnPnds w base A n c C) (hs:OwnSecs w b (some ⟨g,0,none⟩) m d S) (i j:Nat) (u v:Value):OwnPnds ((w.setCell ⟨g,i,none⟩ u).setCell ⟨g,j,none⟩ v) base A n c C:=by
 obtain ⟨vs,hown,_⟩:=hs
 have hg1:w.grownBy ((w.setCell ⟨g,i,none⟩ u).setCell ⟨g,j,none⟩ v) (some g):=grownBy_trans (grownBy_set w g i u) (grownBy_set _ g j v)
 exact h.other hown (by decide) (by decide) hg1
theorem Blk.off_secs {w:World} {b m d g k:Nat} {t:TypeId} {cs:List Value} {S:List Sec} (h:Blk w k t cs) (ht:t≠86) (hs:OwnSecs w b (some ⟨g,0,none⟩) m d S) (i j:Nat) (u v:Value):Blk ((w.setCell ⟨g,i,none⟩ u).setCell ⟨g,j,none⟩ v) k t cs:=by
 obtain ⟨vs,hown,_⟩:=hs
 have hne:k≠g:=fun e=>by
  subst e
  rcases hown.2 with ⟨e2,_⟩ | ⟨g',cap,cur,e2,_,hg',_⟩ <;> cases e2
  unfold Blk at h
  rw [h] at hg'
  simp at hg'
  exact ht hg'.2
 exact (h.away hne i u).away hne j v
theorem settled_any (A:Option Addr) (n c:Nat) (A':Option Addr) (n' c':Nat) (S:List Sec) (C:List Pnd) (Af:Option Addr) (nf cf:Nat) (F:List Int) (w:World) (hq:Dsk w A n c A' n' c' S C) (hs:SmallD S C) (hm:mayD S C=true) (hf:Arg w .u8 Af nf cf F) (hfb:∀ z ∈ F,isByte z) :
  Calls Try.prog 41 #[diskV A n c A' n' c',.slice Af nf cf] w fun e w'=>∃ B d,e=.returned (diskV B n d none 0 0)∧OwnDsk w' w.heap.size B n d none 0 0 (behindS S C F) []∧Below w.heap.size w w':=by
 rw [behindS_all]
 obtain ⟨hm1,hm2,hm3⟩:=(mayD_iff S C).1 hm
 have hl:=hq.secs.len
 have hl':=hq.pnds.len
 have hlf:=hf.len
 have hn:n≤1024:=by rw [← hl];exact hm1.2.1
 have hn1:1≤n:=by rw [← hl];exact hm1.1
 have hn':n'≤64:=by rw [← hl'];exact hm1.2.2
 have hcf:=Nat.le_trans hf.cap hf.max
 unfold maxLen at hcf
 obtain ⟨b1,b2,hb⟩:=boxes2 w A n c A' n' c' none 0 0 none 0 0
 obtain ⟨w1,hw1⟩:∃ w1,w1=(w.alloc (.cells #[.slice A n c,.slice A' n' c'] 56)).alloc (.cells #[.slice none 0 0,.slice none 0 0] 56):=⟨_,rfl⟩
 have hsz1:w1.heap.size=w.heap.size + 2:=by rw [hw1];simp
 rw [← hw1] at b1 b2 hb
 have q0:=b1.cell 0
 have q1:=b1.cell 1
 simp only [gcZ,gcS] at q0 q1
 have TW:=Lh (ptwin_any A n c A' n' c' S C w1 (hq.below hb) hs)
 have BK:=Lh fun k=>(show behindK S C F (k + 1)=byFate (behindK S C F k) (C.getD k (0,[])) (F.getD k 0) from rfl)
 have BKL:=Lh fun k=>(show (behindK S C F k).length=n from by rw [behindK_len,hl])
 have CB:=Lh hq.pnds.byte_at
 have CM:=Lh fun k (hk:k < n')=>hm3 (C.getD k (0,[])) (by rw [gtD,geE (by omega)];exact List.getElem_mem _)
 have FB:=Lh fun k (hk:k < nf)=>hfb (F.getD k 0) (by rw [gtD,geE (by omega)];exact List.getElem_mem _)
 have F0:=Lh fun k (hk:¬ k < nf)=>(show F.getD k 0=0 by rw [gtD,List.getElem?_eq_none (by omega)];rfl)
 have HF:=Lh hf
 have R1:=Lh b2
 have B1:=Lh hb
 have HLEN:=Lh hl'
 have HSZ1:=Lh hsz1
 clear hq hs hm hm1 hm2 hm3 hl hl' hlf hf hfb hb b1 b2 hsz1
 go_enter Try.func41,Try.ntmps41
 go_wp2_with fail
 rw [← hw1]
 clear hw1
 refine TW.out.mono ?_
 rintro e w2 ⟨B,d,B',d',rfl,hown,hb2⟩
 obtain ⟨g,hg,_,_⟩:=hown.secs.block (by omega)
 subst hg
 obtain ⟨w3,hw3⟩:∃ w3,w3=w2.alloc (.cells #[.slice (some ⟨g,0,none⟩) n d,.slice B' n' d'] 56):=⟨_,rfl⟩
 have hb23:Below w2.heap.size w2 w3:=by rw [hw3];exact (Below.refl _ _).alloc (Nat.le_refl _) _
 have hx3:Blk w3 w2.heap.size 56 [.slice (some ⟨g,0,none⟩) n d,.slice B' n' d']:=by rw [hw3];exact Blk.new w2 56 _
 have hO3:=hown.below hb23
 have hb03:=B1.out.trans ((hb2.trans (hb23.mono hb2.size)).mono B1.out.size)
 have hR3:=R1.out.below (hb2.trans (hb23.mono hb2.size)) R1.out.lt
 have hH:w1.heap.size≤w2.heap.size:=hb2.size
 obtain ⟨H3,hH3⟩:∃ H3,H3=w2.heap.size:=⟨_,rfl⟩
 rw [← hH3] at hx3 hH
 have hHl:H3 < w3.heap.size:=hx3.lt
 have hBase:w.heap.size≤w1.heap.size:=by rw [HSZ1.out];omega
 have HLE:=Lh hBase
 have HHL:=Lh hHl
 have HH:=Lh hH
 have r1:=hx3.cell 1
 simp only [gcZ,gcS] at r1
 have O3:=Lh hO3
 have X3:=Lh hx3
 have R3:=Lh hR3
 have B3:=Lh hb03
 clear hown hb2 hb23 hO3 hx3 hR3 hb03 hBase hH hHl q0 q1 TW
 go_upto_region 2 with fail
 rw [← hw3,← hH3]
 clear hw3 hH3
 go_wp2
 go_loopw [14] (fun i wr=>∃ k:Nat,k≤n'∧i=.int .i64 k∧OwnSecs wr w1.heap.size (some ⟨g,0,none⟩) n d (behindK S C F k)∧OwnPnds wr w1.heap.size B' n' d' C∧Blk wr H3 56 [.slice (some ⟨g,0,none⟩) n d,.slice B' n' d']∧Blk wr (w.heap.size + 1) 56 [.slice none 0 0,.slice none 0 0]∧Below w.heap.size w wr) (fun i _=>n' - (intOf i).toNat)
 case atStart=>exact ⟨0,Nat.zero_le _,rfl,O3.out.secs,O3.out.pnds,X3.out,R3.out,B3.out⟩
 case round =>
  obtain ⟨k,hk,rfl,hO,hP,hX,hR,hB⟩:=hrel
  by_cases hkn:k < n'
  ·have hki:(k:Int) < (n':Int):=by omega
   obtain ⟨gB,Ap,np,cp,rfl,hgB,hcP,hcA,hfA,hTp,hnp,hcpn,hcpm⟩:=hP.row hkn
   obtain ⟨hp0,hp1,hp2⟩:=CM.out k hkn
   obtain ⟨p,hp⟩:∃ p,p=C.getD k (0,[]):=⟨_,rfl⟩
   have CBk:=CB.out k
   rw [← hp] at hcA hTp hp0 hp1 hp2 CBk
   have HP:=Lh hp
   obtain ⟨a,ha⟩:∃ a:Nat,p.1=a:=⟨p.1.toNat,by omega⟩
   have han:a < n:=by
    have:=BKL.out 0
    have hls:(behindK S C F 0)=S:=rfl
    rw [hls] at this
    omega
   rw [ha] at hcA
   obtain ⟨gA,As,ns,cs,e,hgA,hcS,hcB,_,hTs,_,_,_⟩:=hO.row han
   cases e
   obtain ⟨Q,hQ⟩:∃ Q,Q=behindK S C F k:=⟨_,rfl⟩
   have hQl:=BKL.out k
   rw [← hQ] at hO hcB hTs hQl
   have HQ:=Lh hQ
   have hby:=(Secs.of_own hO).byte_at a
   have BN:=Lh (byFate_new Q p (F.getD k 0) a ha (by omega))
   obtain ⟨s,hs⟩:∃ s,s=Q.getD a (false,[]):=⟨_,rfl⟩
   rw [← hs] at hcB hTs hby
   have HS:=Lh hs.symm
   obtain ⟨fv,hfv⟩:∃ fv,fv=F.getD k 0 % 3:=⟨_,rfl⟩
   have hfv0:0≤fv:=by omega
   have hfv3:fv < 3:=by omega
   have HFV:=Lh hfv.symm
   have hNB:=newSec_byte (f:=fv) hby CBk
   obtain ⟨wb,hwb⟩:∃ wb,wb=wr.alloc (.cells #[.int .i64 (a:Int),.slice Ap np cp] 33):=⟨_,rfl⟩
   have hb4:Below wr.heap.size wr wb:=by rw [hwb];exact (Below.refl _ _).alloc (Nat.le_refl _) _
   have hx4:Blk wb wr.heap.size 33 [.int .i64 (a:Int),.slice Ap np cp]:=by rw [hwb];exact Blk.new wr 33 _
   have hszd:w1.heap.size≤wb.drew.heap.size:=by
    have h1:=hX.lt
    have h2:=hb4.size
    have h3:=HH.out
    show w1.heap.size≤wb.heap.size
    omega
   have LC:=left_gen fv hfv0 hfv3 w1.heap.size s p As ns cs Ap np cp wb.drew ((hTs.below hb4).below (below_drewN (Below.refl _ _) 1)) ((hTp.below hb4).below (below_drewN (Below.refl _ _) 1)) hszd
   rw [ha] at LC
   obtain ⟨ns2,hns2⟩:∃ x,x=newSec s p fv:=⟨_,rfl⟩
   rw [← hns2] at LC hNB
   have NS:=Lh hns2
   have NB:=Lh hNB
   have LC:=Lh LC
   clear hns2 hNB
   obtain ⟨bs,hbs⟩:∃ bs,bs=s.1:=⟨_,rfl⟩
   rw [← hbs] at hcB LC
   have hcP':=hcP
   have hX4:=hX.below hb4 hX.lt
   have hO4:=hO.below hb4
   have hR4:=hR.below hb4 hR.lt
   have keepS:∀ wx,Below wb.heap.size wb wx→wx.cell? ⟨H3,0,none⟩=some (.slice (some ⟨g,0,none⟩) n d)∧wx.cell? ⟨wr.heap.size,0,none⟩=some (.int .i64 (a:Int))∧wx.cell? ⟨wr.heap.size,1,none⟩=some (.slice Ap np cp)∧wx.cell? ⟨g,a * 2,none⟩=some (.slice As ns cs)∧wx.cell? ⟨g,a * 2 + 1,none⟩=some (.bool bs):=fun wx hx =>
    ⟨(hX4.below hx hX4.lt).cell 0,(hx4.below hx hx4.lt).cell 0,(hx4.below hx hx4.lt).cell 1,(hx.cell (p:=⟨g,_,none⟩) (Nat.lt_of_lt_of_le (World.block_lt_of_cell? wr _ hcS) hb4.size)).trans ((hb4.cell (p:=⟨g,_,none⟩) (World.block_lt_of_cell? wr _ hcS)).trans hcS),(hx.cell (p:=⟨g,a * 2 + 1,none⟩) (Nat.lt_of_lt_of_le (World.block_lt_of_cell? wr _ hcB) hb4.size)).trans ((hb4.cell (p:=⟨g,a * 2 + 1,none⟩) (World.block_lt_of_cell? wr _ hcB)).trans hcB)⟩
   have hHeld:=keepS wb.drew (below_drewN (Below.refl _ _) 1)
   have O4:=Lh hO4
   have P4:=Lh (hP.below hb4)
   have X4:=Lh hX4
   have R4:=Lh hR4
   have B4:=Lh (hB.trans (hb4.mono hB.size))
   have hfa:=(HF.out.below hB).below hb4
   have hpi:(0:Int)≤(a:Int):=by omega
   have hai:(a:Int) < (n:Int):=by omega
   by_cases hkf:k < nf
   ·have hkfi:(k:Int) < (nf:Int):=by omega
    obtain ⟨bf,of,rfl,_,hcf2⟩:=hfa.seq.int (j:=k) (by rw [hfa.len];exact hkf)
    have hfbk:=FB.out k hkf
    obtain ⟨f,hff⟩:∃ f,f=F.getD k 0:=⟨_,rfl⟩
    rw [← hff] at hcf2 hfbk hfv
    rw [hwb] at hcf2
    have hf0:0≤f:=hfbk.1
    have hf1:f < 256:=hfbk.2
    have hrem:f.tmod 3=fv:=by rw [Int.tmod_eq_emod_of_nonneg hf0];exact hfv.symm
    have hrem2:f % 3=fv:=hfv.symm
    have hwrf:IntKind.u8.wrap fv=fv:=by simp [IntKind.wrap,IntKind.bits,IntKind.signed];omega
    clear hO hP hX hR hB hcB hTp hTs hcS hnp hp hQ hs hby CBk hbs hO4 hR4 hX4 hx4 hb4 hfa hff hfv ha hfbk hQl hszd hp0 hp1 hp2
    go_upto_region 8 with fail
    rw [← hwb]
    clear hwb
    refine wp_region_to 14 (fun w'=>w'.cell? ⟨H3,0,none⟩=some (.slice (some ⟨g,0,none⟩) n d)∧w'.cell? ⟨wr.heap.size,0,none⟩=some (.int .i64 (a:Int))∧w'.cell? ⟨wr.heap.size,1,none⟩=some (.slice Ap np cp)∧w'.cell? ⟨g,a * 2,none⟩=some (.slice As ns cs)∧w'.cell? ⟨g,a * 2 + 1,none⟩=some (.bool bs)) (by kernel_rfl) ?_
    refine wpAnyG_take (i:=0) (v:=?_) rfl (by kernel_rfl) (by kernel_rfl) (by kernel_rfl) (by kernel_rfl) (by kernel_rfl) rfl (fun _ _ _ h=>h) (Or.inl ⟨by rfl,?_⟩) hHeld ?_
    rotate_left
    ·(intro w' hSw;(try dsimp only at hSw);go_simp;(try with_reducible rfl))
    simp only [Act.put,stA]
    refine wpAnyG_take (i:=1) (v:=?_) rfl (by kernel_rfl) (by kernel_rfl) (by kernel_rfl) (by kernel_rfl) (by kernel_rfl) rfl (fun _ _ _ h=>h) (Or.inl ⟨by rfl,?_⟩) hHeld ?_
    rotate_left
    ·(intro w' hSw;(try dsimp only at hSw);go_simp;(try with_reducible rfl))
    simp only [Act.put]
    refine wpAnyG_take (i:=2) (v:=?_) rfl (by kernel_rfl) (by kernel_rfl) (by kernel_rfl) (by kernel_rfl) (by kernel_rfl) rfl (fun _ _ _ h=>h) (Or.inl ⟨by rfl,?_⟩) hHeld ?_
    rotate_left
    ·(intro w' hSw;(try dsimp only at hSw);go_simp;(try with_reducible rfl))
    simp only [Act.put]
    refine wpAnyG_take (i:=3) (v:=?_) rfl (by kernel_rfl) (by kernel_rfl) (by kernel_rfl) (by kernel_rfl) (by kernel_rfl) rfl (fun _ _ _ h=>h) (Or.inl ⟨by rfl,?_⟩) hHeld ?_
    rotate_left
    ·(intro w' hSw;(try dsimp only at hSw);go_simp;(try with_reducible rfl))
    simp only [Act.put]
    refine wpAnyG_take (i:=4) (v:=?_) rfl (by kernel_rfl) (by kernel_rfl) (by kernel_rfl) (by kernel_rfl) (by kernel_rfl) rfl (fun _ _ _ h=>h) (Or.inl ⟨by rfl,?_⟩) hHeld ?_
    rotate_left
    ·(intro w' hSw;(try dsimp only at hSw);go_simp;(try with_reducible rfl))
    simp only [Act.put]
    refine wpAnyG_take (i:=5) (v:=?_) rfl (by kernel_rfl) (by kernel_rfl) (by kernel_rfl) (by kernel_rfl) (by kernel_rfl) rfl (fun _ _ _ h=>h) (Or.inl ⟨by rfl,?_⟩) hHeld ?_
    rotate_left
    ·(intro w' hSw;(try dsimp only at hSw);go_simp;(try with_reducible rfl))
    simp only [Act.put]
    refine wpAnyG_take (i:=6) (v:=?_) rfl (by kernel_rfl) (by kernel_rfl) (by kernel_rfl) (by kernel_rfl) (by kernel_rfl) rfl (fun _ _ _ h=>h) (Or.inl ⟨by rfl,?_⟩) hHeld ?_
    rotate_left
    ·(intro w' hSw;(try dsimp only at hSw);go_simp;(try with_reducible rfl))
    simp only [Act.put]
    refine wpAnyG_take (i:=7) (v:=?_) rfl (by kernel_rfl) (by kernel_rfl) (by kernel_rfl) (by kernel_rfl) (by kernel_rfl) rfl (fun _ _ _ h=>h) (Or.inl ⟨by rfl,?_⟩) hHeld ?_
    rotate_left
    ·(intro w' hSw;(try dsimp only at hSw);go_simp;(try with_reducible rfl))
    simp only [Act.put]
    refine wpAnyG_take (i:=8) (v:=?_) rfl (by kernel_rfl) (by kernel_rfl) (by kernel_rfl) (by kernel_rfl) (by kernel_rfl) rfl (fun _ _ _ h=>h) (Or.inl ⟨by rfl,?_⟩) hHeld ?_
    rotate_left
    ·(intro w' hSw;(try dsimp only at hSw);go_simp;(try with_reducible rfl))
    simp only [Act.put]
    refine wpAnyG_take (i:=9) (v:=?_) rfl (by kernel_rfl) (by kernel_rfl) (by kernel_rfl) (by kernel_rfl) (by kernel_rfl) rfl (fun _ _ _ h=>h) (Or.inl ⟨by rfl,?_⟩) hHeld ?_
    rotate_left
    ·(intro w' hSw;(try dsimp only at hSw);go_simp;(try with_reducible rfl))
    simp only [Act.put]
    refine wpAnyG_take (i:=10) (v:=?_) rfl (by kernel_rfl) (by kernel_rfl) (by kernel_rfl) (by kernel_rfl) (by kernel_rfl) rfl (fun _ _ _ h=>h) (Or.inl ⟨by rfl,?_⟩) hHeld ?_
    rotate_left
    ·(intro w' hSw;(try dsimp only at hSw);go_simp;(try with_reducible rfl))
    simp only [Act.put]
    refine wpAnyG_take (i:=11) (v:=?_) rfl (by kernel_rfl) (by kernel_rfl) (by kernel_rfl) (by kernel_rfl) (by kernel_rfl) rfl (fun _ _ _ h=>h) (Or.inl ⟨by rfl,?_⟩) hHeld ?_
    rotate_left
    ·(intro w' hSw;(try dsimp only at hSw);go_simp;(try with_reducible rfl))
    simp only [Act.put]
    refine wpAnyG_one (i:=12) (by kernel_rfl) rfl (fun K hK=>?_)
    go_simp
    go_at_call 73
    refine LC.out.mono ?_
    rintro e w5 ⟨X,nx,cx,rfl,hT,hb5⟩
    have hcur:Below wb.heap.size wb w5:=(below_drewN (Below.refl _ _) 1).trans hb5
    have O5:=O4.out.below hcur
    obtain ⟨g',u5,v5,e5,hbg,hc5,hc6,hf5,hf6,hO6⟩:=O5.setTxt (i:=a) (x:=ns2.1) (zs:=ns2.2) han NB.out hT
    cases e5
    refine hK.out _ _ (fun _=>keepS _ hcur) (fun hHeld=>?_)
    have hHeld:=hHeld (by decide)
    clear hK K
    try simp only [Act.put,stA,scZ,scS]
    refine wpAnyG_take (i:=13) (v:=?_) rfl (by kernel_rfl) (by kernel_rfl) (by kernel_rfl) (by kernel_rfl) (by kernel_rfl) rfl (fun _ _ _ h=>h) (Or.inl ⟨by rfl,?_⟩) hHeld ?_
    rotate_left
    ·(intro w' hSw;(try dsimp only at hSw);go_simp;(try with_reducible rfl))
    simp only [Act.put,stA]
    refine wpAnyG_one (i:=14) (by kernel_rfl) rfl (fun K hK=>?_)
    go_simp
    refine hK.out _ _ (fun h=>absurd rfl h) (fun _=>?_)
    clear hK K
    refine wpAnyG_done (by kernel_rfl) ?_ _
    have P6:=Lh ((P4.out.below hcur).secs_set O5 (a * 2) (a * 2 + 1) (.slice X nx cx) (.bool ns2.1))
    have X6:=Lh ((X4.out.below hcur X4.out.lt).off_secs (by decide) O5 (a * 2) (a * 2 + 1) (.slice X nx cx) (.bool ns2.1))
    have R6:=Lh ((R4.out.below hcur R4.out.lt).off_secs (by decide) O5 (a * 2) (a * 2 + 1) (.slice X nx cx) (.bool ns2.1))
    have B6:=Lh (((B4.out.trans (hcur.mono B4.out.size)).setCell (p:=⟨g,a * 2,none⟩) (Nat.le_trans HLE.out hbg) (.slice X nx cx)).setCell (p:=⟨g,a * 2 + 1,none⟩) (Nat.le_trans HLE.out hbg) (.bool ns2.1))
    have O6:=Lh hO6
    obtain ⟨w6,hw6⟩:∃ w6,w6=(w5.setCell ⟨g,a * 2,none⟩ (.slice X nx cx)).setCell ⟨g,a * 2 + 1,none⟩ (.bool ns2.1):=⟨_,rfl⟩
    rw [← hw6] at P6 X6 R6 B6 O6
    rw [← hw6]
    clear hw6 hO6 O5 hcur hT hb5 hc5 hc6 hf5 hf6 hHeld keepS
    go_wp2
    go_roundw
    case rel=>exact ⟨k + 1,by omega,by go_num,by rw [BK.out k,← HQ.out,← HP.out,BN.out,HS.out,HFV.out,← NS.out];exact O6.out,P6.out,X6.out,R6.out,B6.out⟩
    case measure=>simp [intOf];omega
   ·have hkfi:¬ (k:Int) < (nf:Int):=by omega
    have hfz:fv=0:=by rw [hfv,F0.out k hkf];rfl
    clear hO hP hX hR hB hcB hTp hTs hcS hnp hp hQ hs hby CBk hbs hO4 hR4 hX4 hx4 hb4 hfa hfv ha hQl hszd hp0 hp1 hp2
    subst hfz
    go_upto_region 8 with fail
    rw [← hwb]
    clear hwb
    refine wp_region_to 14 (fun w'=>w'.cell? ⟨H3,0,none⟩=some (.slice (some ⟨g,0,none⟩) n d)∧w'.cell? ⟨wr.heap.size,0,none⟩=some (.int .i64 (a:Int))∧w'.cell? ⟨wr.heap.size,1,none⟩=some (.slice Ap np cp)∧w'.cell? ⟨g,a * 2,none⟩=some (.slice As ns cs)∧w'.cell? ⟨g,a * 2 + 1,none⟩=some (.bool bs)) (by kernel_rfl) ?_
    refine wpAnyG_take (i:=0) (v:=?_) rfl (by kernel_rfl) (by kernel_rfl) (by kernel_rfl) (by kernel_rfl) (by kernel_rfl) rfl (fun _ _ _ h=>h) (Or.inl ⟨by rfl,?_⟩) hHeld ?_
    rotate_left
    ·(intro w' hSw;(try dsimp only at hSw);go_simp;(try with_reducible rfl))
    simp only [Act.put,stA]
    refine wpAnyG_take (i:=1) (v:=?_) rfl (by kernel_rfl) (by kernel_rfl) (by kernel_rfl) (by kernel_rfl) (by kernel_rfl) rfl (fun _ _ _ h=>h) (Or.inl ⟨by rfl,?_⟩) hHeld ?_
    rotate_left
    ·(intro w' hSw;(try dsimp only at hSw);go_simp;(try with_reducible rfl))
    simp only [Act.put]
    refine wpAnyG_take (i:=2) (v:=?_) rfl (by kernel_rfl) (by kernel_rfl) (by kernel_rfl) (by kernel_rfl) (by kernel_rfl) rfl (fun _ _ _ h=>h) (Or.inl ⟨by rfl,?_⟩) hHeld ?_
    rotate_left
    ·(intro w' hSw;(try dsimp only at hSw);go_simp;(try with_reducible rfl))
    simp only [Act.put]
    refine wpAnyG_take (i:=3) (v:=?_) rfl (by kernel_rfl) (by kernel_rfl) (by kernel_rfl) (by kernel_rfl) (by kernel_rfl) rfl (fun _ _ _ h=>h) (Or.inl ⟨by rfl,?_⟩) hHeld ?_
    rotate_left
    ·(intro w' hSw;(try dsimp only at hSw);go_simp;(try with_reducible rfl))
    simp only [Act.put]
    refine wpAnyG_take (i:=4) (v:=?_) rfl (by kernel_rfl) (by kernel_rfl) (by kernel_rfl) (by kernel_rfl) (by kernel_rfl) rfl (fun _ _ _ h=>h) (Or.inl ⟨by rfl,?_⟩) hHeld ?_
    rotate_left
    ·(intro w' hSw;(try dsimp only at hSw);go_simp;(try with_reducible rfl))
    simp only [Act.put]
    refine wpAnyG_take (i:=5) (v:=?_) rfl (by kernel_rfl) (by kernel_rfl) (by kernel_rfl) (by kernel_rfl) (by kernel_rfl) rfl (fun _ _ _ h=>h) (Or.inl ⟨by rfl,?_⟩) hHeld ?_
    rotate_left
    ·(intro w' hSw;(try dsimp only at hSw);go_simp;(try with_reducible rfl))
    simp only [Act.put]
    refine wpAnyG_take (i:=6) (v:=?_) rfl (by kernel_rfl) (by kernel_rfl) (by kernel_rfl) (by kernel_rfl) (by kernel_rfl) rfl (fun _ _ _ h=>h) (Or.inl ⟨by rfl,?_⟩) hHeld ?_
    rotate_left
    ·(intro w' hSw;(try dsimp only at hSw);go_simp;(try with_reducible rfl))
    simp only [Act.put]
    refine wpAnyG_take (i:=7) (v:=?_) rfl (by kernel_rfl) (by kernel_rfl) (by kernel_rfl) (by kernel_rfl) (by kernel_rfl) rfl (fun _ _ _ h=>h) (Or.inl ⟨by rfl,?_⟩) hHeld ?_
    rotate_left
    ·(intro w' hSw;(try dsimp only at hSw);go_simp;(try with_reducible rfl))
    simp only [Act.put]
    refine wpAnyG_take (i:=8) (v:=?_) rfl (by kernel_rfl) (by kernel_rfl) (by kernel_rfl) (by kernel_rfl) (by kernel_rfl) rfl (fun _ _ _ h=>h) (Or.inl ⟨by rfl,?_⟩) hHeld ?_
    rotate_left
    ·(intro w' hSw;(try dsimp only at hSw);go_simp;(try with_reducible rfl))
    simp only [Act.put]
    refine wpAnyG_take (i:=9) (v:=?_) rfl (by kernel_rfl) (by kernel_rfl) (by kernel_rfl) (by kernel_rfl) (by kernel_rfl) rfl (fun _ _ _ h=>h) (Or.inl ⟨by rfl,?_⟩) hHeld ?_
    rotate_left
    ·(intro w' hSw;(try dsimp only at hSw);go_simp;(try with_reducible rfl))
    simp only [Act.put]
    refine wpAnyG_take (i:=10) (v:=?_) rfl (by kernel_rfl) (by kernel_rfl) (by kernel_rfl) (by kernel_rfl) (by kernel_rfl) rfl (fun _ _ _ h=>h) (Or.inl ⟨by rfl,?_⟩) hHeld ?_
    rotate_left
    ·(intro w' hSw;(try dsimp only at hSw);go_simp;(try with_reducible rfl))
    simp only [Act.put]
    refine wpAnyG_take (i:=11) (v:=?_) rfl (by kernel_rfl) (by kernel_rfl) (by kernel_rfl) (by kernel_rfl) (by kernel_rfl) rfl (fun _ _ _ h=>h) (Or.inl ⟨by rfl,?_⟩) hHeld ?_
    rotate_left
    ·(intro w' hSw;(try dsimp only at hSw);go_simp;(try with_reducible rfl))
    simp only [Act.put]
    refine wpAnyG_one (i:=12) (by kernel_rfl) rfl (fun K hK=>?_)
    go_simp
    go_at_call 73
    refine LC.out.mono ?_
    rintro e w5 ⟨X,nx,cx,rfl,hT,hb5⟩
    have hcur:Below wb.heap.size wb w5:=(below_drewN (Below.refl _ _) 1).trans hb5
    have O5:=O4.out.below hcur
    obtain ⟨g',u5,v5,e5,hbg,hc5,hc6,hf5,hf6,hO6⟩:=O5.setTxt (i:=a) (x:=ns2.1) (zs:=ns2.2) han NB.out hT
    cases e5
    refine hK.out _ _ (fun _=>keepS _ hcur) (fun hHeld=>?_)
    have hHeld:=hHeld (by decide)
    clear hK K
    try simp only [Act.put,stA,scZ,scS]
    refine wpAnyG_take (i:=13) (v:=?_) rfl (by kernel_rfl) (by kernel_rfl) (by kernel_rfl) (by kernel_rfl) (by kernel_rfl) rfl (fun _ _ _ h=>h) (Or.inl ⟨by rfl,?_⟩) hHeld ?_
    rotate_left
    ·(intro w' hSw;(try dsimp only at hSw);go_simp;(try with_reducible rfl))
    simp only [Act.put,stA]
    refine wpAnyG_one (i:=14) (by kernel_rfl) rfl (fun K hK=>?_)
    go_simp
    refine hK.out _ _ (fun h=>absurd rfl h) (fun _=>?_)
    clear hK K
    refine wpAnyG_done (by kernel_rfl) ?_ _
    have P6:=Lh ((P4.out.below hcur).secs_set O5 (a * 2) (a * 2 + 1) (.slice X nx cx) (.bool ns2.1))
    have X6:=Lh ((X4.out.below hcur X4.out.lt).off_secs (by decide) O5 (a * 2) (a * 2 + 1) (.slice X nx cx) (.bool ns2.1))
    have R6:=Lh ((R4.out.below hcur R4.out.lt).off_secs (by decide) O5 (a * 2) (a * 2 + 1) (.slice X nx cx) (.bool ns2.1))
    have B6:=Lh (((B4.out.trans (hcur.mono B4.out.size)).setCell (p:=⟨g,a * 2,none⟩) (Nat.le_trans HLE.out hbg) (.slice X nx cx)).setCell (p:=⟨g,a * 2 + 1,none⟩) (Nat.le_trans HLE.out hbg) (.bool ns2.1))
    have O6:=Lh hO6
    obtain ⟨w6,hw6⟩:∃ w6,w6=(w5.setCell ⟨g,a * 2,none⟩ (.slice X nx cx)).setCell ⟨g,a * 2 + 1,none⟩ (.bool ns2.1):=⟨_,rfl⟩
    rw [← hw6] at P6 X6 R6 B6 O6
    rw [← hw6]
    clear hw6 hO6 O5 hcur hT hb5 hc5 hc6 hf5 hf6 hHeld keepS
    go_wp2
    go_roundw
    case rel=>exact ⟨k + 1,by omega,by go_num,by rw [BK.out k,← HQ.out,← HP.out,BN.out,HS.out,HFV.out,← NS.out];exact O6.out,P6.out,X6.out,R6.out,B6.out⟩
    case measure=>simp [intOf];omega
  ·obtain rfl:n'=k:=by omega
   have q0:=hX.cell 0
   have q1:=hX.cell 1
   have g0:=hX.free 0
   have g1:=hX.free 1
   have p0:=hR.cell 0
   have p1:=hR.cell 1
   have f0:=hR.free 0
   have f1:=hR.free 1
   simp only [gcZ,gcS] at q0 q1 p0 p1
   have HXL:=hX.lt
   have hne:w.heap.size + 1≠H3:=by
    have h1:=HH.out
    have h2:=HSZ1.out
    omega
   have hX5:=hX.set 1 (.slice none 0 0)
   have e0:=hX5.cell 0
   have e1:=hX5.cell 1
   simp only [gcZ,gcS,scZ,scS] at e0 e1
   have hR5:=hR.away hne 1 (.slice none 0 0)
   have z:=hR5.two (.slice (some ⟨g,0,none⟩) n d) (.slice none 0 0)
   have z0:=z.cell 0
   have z1:=z.cell 1
   have s0:=hR5.cell 0
   have s1:=hR5.cell 1
   have v0:=hR5.free 0
   have v1:=hR5.free 1
   simp only [gcZ,gcS] at z0 z1 s0 s1
   have O8:=(OwnDsk.mk hO (OwnPnds.nil _ _)).box hX 1 (.slice none 0 0)
   have O9:=Lh ((O8.two hR5 (.slice (some ⟨g,0,none⟩) n d) (.slice none 0 0)).lower HLE.out)
   have hHb:w.heap.size≤H3:=Nat.le_trans HLE.out HH.out
   have B9:=Lh (below_two (hB.setCell (p:=⟨H3,1,none⟩) hHb (.slice none 0 0)) (show w.heap.size≤w.heap.size + 1 by omega) (.slice (some ⟨g,0,none⟩) n d) (.slice none 0 0))
   have RL:=Lh HLEN.out
   clear hO hP hX hR hB hX5 hR5 z O8 r1
   go_wp2
   refine bodyPost_ret (v:=diskV (some ⟨g,0,none⟩) n d none 0 0) ?_ rfl ⟨_,d,rfl,?_,B9.out⟩
   ·clear q0 q1 g0 g1 p0 p1 f0 f1 e0 e1 s0 s1 v0 v1
    simp [results,Try.f41,go_sem,z0,z1]
   ·rw [RL.out]
    exact O9.out
theorem pcrash_any (A:Option Addr) (n c:Nat) (A':Option Addr) (n' c':Nat) (S:List Sec) (C:List Pnd) (Af:Option Addr) (nf cf:Nat) (F:List Int) (w:World) (hq:Dsk w A n c A' n' c' S C) (hs:SmallD S C) (hf:Arg w .u8 Af nf cf F) (hfb:∀ z ∈ F,isByte z) :
  Calls Try.prog 20 #[diskV A n c A' n' c',.slice Af nf cf] w (DiskOut w (crS S C F) [] (chkD S C)):=by
 obtain ⟨x1,x2,hbel⟩:=boxes2 w A n c A' n' c' none 0 0 none 0 0
 have hsz:((w.alloc (.cells #[.slice A n c,.slice A' n' c'] 56)).alloc (.cells #[.slice none 0 0,.slice none 0 0] 56)).heap.size=w.heap.size + 2:=by simp
 have M:=check_any A n c A' n' c' S C _ (hq.below hbel)
 have X1:=Lh x1
 have X2:=Lh x2
 have BEL:=Lh hbel
 have HSZ:=Lh hsz
 have c0:=x1.cell 0
 have c1:=x1.cell 1
 simp only [gcZ,gcS] at c0 c1
 cases hR:mayD S C with
 | true =>
  have hE:chkD S C=0:=by unfold chkD;rw [hR];rfl
  rw [hE] at M
  have M:=Lh M
  have BH:=Lh fun w3 hx hy=>settled_any A n c A' n' c' S C Af nf cf F w3 hx hs hR hy hfb
  have hres:crS S C F=behindS S C F:=by unfold crS;rw [if_pos hR]
  have hlen:(behindS S C F).length=n:=by unfold behindS;rw [behindK_len,hq.secs.len]
  rw [hE,hres]
  have HQ:=Lh hq
  have HF:=Lh hf
  have HL:=Lh hlen
  obtain ⟨RS,hRS⟩:∃ RS,RS=behindS S C F:=⟨_,rfl⟩
  rw [← hRS] at BH HL ⊢
  clear x1 x2 hbel hsz hq hs hR hE hres hlen hRS hf hfb
  go_enter Try.func20,Try.ntmps20
  go_wp2_with fail
  refine M.out.mono ?_
  rintro e w3 ⟨rfl,hb3⟩
  have x1:=X1.out.below hb3 (by have:=HSZ.out;omega)
  have x2:=X2.out.below hb3 (by have:=HSZ.out;omega)
  have d0:=x1.cell 0
  have d1:=x1.cell 1
  simp only [gcZ,gcS] at d0 d1
  have R2:=Lh x2
  have B3:=Lh (BEL.out.trans (hb3.mono (by have:=HSZ.out;omega)))
  have BH:=Lh (BH.out w3 (HQ.out.below B3.out) (HF.out.below B3.out))
  have hz3:w.heap.size + 2≤w3.heap.size:=by have h1:=x2.lt;omega
  clear hb3 x1 x2 c0 c1 M
  go_wp2_with fail
  refine BH.out.mono ?_
  rintro e w4 ⟨B,d,rfl,hown,hb4⟩
  have x2:=R2.out.below hb4 (by omega)
  have e0:=x2.cell 0
  have e1:=x2.cell 1
  have g0:=x2.free 0
  have g1:=x2.free 1
  simp only [gcZ,gcS] at e0 e1
  have Q2:=Lh x2
  have O4:=Lh hown
  have B4:=Lh (B3.out.trans (hb4.mono B3.out.size))
  clear x2 hown hb4 d0 d1
  go_wp2
  have z:=Q2.out.two (.slice B n d) (.slice none 0 0)
  have z0:=z.cell 0
  have z1:=z.cell 1
  simp only [gcZ,gcS] at z0 z1
  have O9:=O4.out.two Q2.out (.slice B n d) (.slice none 0 0)
  have hl:=HL.out
  refine bodyPost_ret (v:=.tuple #[diskV B n d none 0 0,.int .i64 0]) ?_ rfl ⟨B,d,none,0,by rw [hl];rfl,by rw [hl];exact O9.lower (by omega),below_two B4.out (by omega) _ _⟩
  clear e0 e1 g0 g1
  simp [results,Try.f20,go_sem,z0,z1]
 | false =>
  have hE:chkD S C=8:=by unfold chkD;rw [hR];rfl
  rw [hE] at M
  have M:=Lh M
  have hres:crS S C F=[]:=by unfold crS;rw [hR];rfl
  rw [hE,hres]
  clear x1 x2 hbel hsz hq hs hR hE hres hf hfb
  go_enter Try.func20,Try.ntmps20
  go_wp2_with fail
  refine M.out.mono ?_
  rintro e w3 ⟨rfl,hb3⟩
  have x2:=X2.out.below hb3 (by have:=HSZ.out;omega)
  have e0:=x2.cell 0
  have e1:=x2.cell 1
  have g0:=x2.free 0
  have g1:=x2.free 1
  simp only [gcZ,gcS] at e0 e1
  have R2:=Lh x2
  have B3:=Lh (BEL.out.trans (hb3.mono (by have:=HSZ.out;omega)))
  clear hb3 x2 c0 c1
  go_wp2
  have z:=R2.out.two (.slice none 0 0) (.slice none 0 0)
  have z0:=z.cell 0
  have z1:=z.cell 1
  simp only [gcZ,gcS] at z0 z1
  refine bodyPost_ret (v:=.tuple #[diskV none 0 0 none 0 0,.int .i64 8]) ?_ rfl ⟨none,0,none,0,rfl,OwnDsk.nil _ _,below_two B3.out (by omega) _ _⟩
  clear e0 e1 g0 g1
  simp [results,Try.f20,go_sem,z0,z1]
theorem wr_ask {S:List Sec} {C:List Pnd} {t:Int} {b:Txt} (h:chkD S C≠0):wrE S C t b=chkD S C:=by
 unfold wrE
 rw [ask_chk h,if_neg h]
theorem wr_arg {S:List Sec} {C:List Pnd} {t:Int} {b:Txt} (h:chkD S C=0) (h2:pndOkI S.length (t,b)=false):wrE S C t b=2:=by
 unfold wrE
 rw [ask_at h]
 by_cases hc:0≤t∧t < (S.length:Int)
 ·rw [if_pos hc,if_pos rfl,if_neg]
  intro hb
  unfold pndOkI at h2
  simp [hc.1,hc.2,hb] at h2
 ·rw [if_neg hc,if_neg (by omega)]
theorem wr_full {S:List Sec} {C:List Pnd} {t:Int} {b:Txt} (h:chkD S C=0) (h2:pndOkI S.length (t,b)=true) (h3:C.length=64):wrE S C t b=9:=by
 unfold wrE
 unfold pndOkI at h2
 simp only [Bool.and_eq_true,decide_eq_true_iff] at h2
 rw [ask_at h,if_pos h2.1,if_pos rfl,if_pos h2.2,if_pos (by omega)]
theorem wr_ok {S:List Sec} {C:List Pnd} {t:Int} {b:Txt} (h:chkD S C=0) (h2:pndOkI S.length (t,b)=true) (h3:C.length < 64):wrE S C t b=0:=by
 unfold wrE
 unfold pndOkI at h2
 simp only [Bool.and_eq_true,decide_eq_true_iff] at h2
 rw [ask_at h,if_pos h2.1,if_pos rfl,if_pos h2.2,if_neg (by omega)]
theorem chk_full {S:List Sec} {C:List Pnd} (h:chkD S C=0):C.length≤64:=by
 unfold chkD at h
 split at h
 ·rename_i hm
  exact ((mayD_iff S C).1 hm).1.2.2
 ·omega
theorem one_pnd (w:World) (t:Int) (A:Option Addr) (n c:Nat) (b:Txt) (h:Arg w .u8 A n c b) (hb:∀ z ∈ b,isByte z):Pnds (w.alloc (.cells #[.int .i64 t,.slice A n c] 33)) (some ⟨w.heap.size,0,none⟩) 1 1 [(t,b)]:=by
 have hx:=Blk.new w 33 [.int .i64 t,.slice A n c]
 refine ⟨rfl,Nat.le_refl _,by decide,?_,fun i hi=>?_⟩
 ·intro s hs
  rw [List.mem_singleton] at hs
  subst hs
  exact hb
 ·obtain rfl:i=0:=by omega
  exact ⟨w.heap.size,0,A,n,c,rfl,hx.lt,hx.cell 1,hx.cell 0,h.below ((Below.refl _ _).alloc (Nat.le_refl _) _)⟩
theorem pwrite_any (A:Option Addr) (n c:Nat) (A':Option Addr) (n' c':Nat) (S:List Sec) (C:List Pnd) (t:Int) (Ab:Option Addr) (nb cb:Nat) (b:Txt) (w:World) (hq:Dsk w A n c A' n' c' S C) (hs:SmallD S C) (hb:Arg w .u8 Ab nb cb b) (hby:∀ z ∈ b,isByte z) (hbl:b.length≤100) :
  Calls Try.prog 39 #[diskV A n c A' n' c',.int .i64 t,.slice Ab nb cb] w (DiskOut w (wrS S C t b) (wrC S C t b) (wrE S C t b)):=by
 have hnb:nb≤100:=by rw [← hb.len];exact hbl
 have hl:=hq.secs.len
 have hl':=hq.pnds.len
 have hcm:=Nat.le_trans hq.secs.cap hq.secs.max
 have hcm':=Nat.le_trans hq.pnds.cap hq.pnds.max
 unfold maxLen at hcm hcm'
 have hSS:wrE S C t b=0→wrS S C t b=S:=fun h=>by unfold wrS;rw [if_pos h]
 have hCC:wrE S C t b=0→wrC S C t b=C ++ [(t,b)]:=fun h=>by unfold wrC;rw [if_pos h]
 have hSN:wrE S C t b≠0→wrS S C t b=[]:=fun h=>by unfold wrS;rw [if_neg h]
 have hCN:wrE S C t b≠0→wrC S C t b=[]:=fun h=>by unfold wrC;rw [if_neg h]
 have K1:=wr_ask (S:=S) (C:=C) (t:=t) (b:=b)
 have K2:=wr_arg (S:=S) (C:=C) (t:=t) (b:=b)
 have K3:=wr_full (S:=S) (C:=C) (t:=t) (b:=b)
 have K4:=wr_ok (S:=S) (C:=C) (t:=t) (b:=b)
 have K5:=chk_full (S:=S) (C:=C)
 rw [hl] at K2 K3 K4
 rw [hl'] at K3 K4 K5
 obtain ⟨x1,x2,hbel⟩:=boxes2 w A n c A' n' c' none 0 0 none 0 0
 obtain ⟨w1,hw1⟩:∃ w1,w1=(w.alloc (.cells #[.slice A n c,.slice A' n' c'] 56)).alloc (.cells #[.slice none 0 0,.slice none 0 0] 56):=⟨_,rfl⟩
 rw [← hw1] at x1 x2 hbel
 have hsz1:w1.heap.size=w.heap.size + 2:=by rw [hw1];simp
 have c0:=x1.cell 0
 have c1:=x1.cell 1
 simp only [gcZ,gcS] at c0 c1
 have CK:=check_any A n c A' n' c' S C w1 (hq.below hbel)
 obtain ⟨E,hE⟩:∃ E,E=chkD S C:=⟨_,rfl⟩
 rw [← hE] at CK K1 K2 K3 K4 K5
 have CK:=Lh CK
 have X1:=Lh x1
 have X2:=Lh x2
 have BEL:=Lh hbel
 have H:=Lh hq
 have HB:=Lh hb
 have HBY:=Lh hby
 have SM:=Lh hs
 have HSZ:=Lh hsz1
 have HL:=Lh hl
 have HL':=Lh hl'
 clear x1 x2 hbel hq hb hby hs hsz1 hE hl hl'
 by_cases he:E=0
 ·subst he
  obtain ⟨P,hP⟩:∃ P,P=pndOkI (n:Int) (t,b):=⟨_,rfl⟩
  have AW:=Lh fun w3 (hx:Arg w3 .u8 Ab nb cb b)=>areWrites_any (n:Int) (some ⟨w3.heap.size,0,none⟩) 1 1 [(t,b)] _ (one_pnd w3 t Ab nb cb b hx HBY.out)
  rw [show [(t,b)].all (pndOkI (n:Int))=P by rw [hP];simp] at AW
  rw [← hP] at K2 K3 K4
  clear hP K1
  cases P with
  | false =>
   have hE:=K2 rfl rfl
   rw [hSN (by rw [hE];decide),hCN (by rw [hE];decide),hE]
   clear K2 K3 K4 K5 hSS hCC hSN hCN hE
   go_enter Try.func39,Try.ntmps39
   go_wp2_with fail
   rw [← hw1]
   clear hw1
   refine CK.out.mono ?_
   rintro e w2 ⟨rfl,hb2⟩
   have X12:=Lh (X1.out.below hb2 X1.out.lt)
   have X22:=Lh (X2.out.below hb2 X2.out.lt)
   have B2:=Lh (BEL.out.trans (hb2.mono BEL.out.size))
   clear hb2 c0 c1
   obtain ⟨w3,hw3⟩:∃ w3,w3=w2.alloc (.cells #[.int .i64 t,.slice Ab nb cb] 33):=⟨_,rfl⟩
   have hb23:Below w2.heap.size w2 w3:=by rw [hw3];exact (Below.refl _ _).alloc (Nat.le_refl _) _
   have hp3:Blk w3 w2.heap.size 33 [.int .i64 t,.slice Ab nb cb]:=by rw [hw3];exact Blk.new w2 33 _
   have X13:=X12.out.below hb23 X12.out.lt
   have X23:=X22.out.below hb23 X22.out.lt
   have d0:=X13.cell 0
   have p0:=hp3.cell 0
   have p1:=hp3.cell 1
   simp only [gcZ,gcS] at d0 p0 p1
   have B3:=B2.out.trans (hb23.mono B2.out.size)
   have AW3:=Lh (AW.out w3 (HB.out.below B3))
   have hb34:Below w3.heap.size w3 (w3.alloc (.cells #[.int .i64 t,.slice Ab nb cb] 33)):=(Below.refl _ _).alloc (Nat.le_refl _) _
   have X24:=Lh (X23.below hb34 X23.lt)
   have B4:=Lh (B3.trans (hb34.mono B3.size))
   clear hb23 hp3 X13 X23 B3 hb34 AW
   go_upto_region 5 with fail
   rw [← hw3]
   clear hw3
   go_wp2_with fail
   refine AW3.out.mono ?_
   rintro e w5 ⟨rfl,hb5⟩
   have x5:=X24.out.below hb5 X24.out.lt
   have B5:=Lh (B4.out.trans (hb5.mono B4.out.size))
   have e0:=x5.cell 0
   have e1:=x5.cell 1
   have g0:=x5.free 0
   have g1:=x5.free 1
   simp only [gcZ,gcS] at e0 e1
   have z:=x5.two (.slice none 0 0) (.slice none 0 0)
   have z0:=z.cell 0
   have z1:=z.cell 1
   simp only [gcZ,gcS] at z0 z1
   clear hb5 x5 z
   go_wp2
   refine bodyPost_ret (v:=.tuple #[diskV none 0 0 none 0 0,.int .i64 2]) ?_ rfl ⟨none,0,none,0,rfl,OwnDsk.nil _ _,below_two B5.out (by omega) _ _⟩
   clear e0 e1 g0 g1
   simp [results,Try.f39,go_sem,z0,z1]
  | true =>
   by_cases hn64:n'=64
   ·have hE:=K3 rfl rfl hn64
    rw [hSN (by rw [hE];decide),hCN (by rw [hE];decide),hE]
    have h64:((n':Int) == 64)=true:=by rw [hn64];rfl
    clear K2 K3 K4 K5 hSS hCC hSN hCN hE hn64
    go_enter Try.func39,Try.ntmps39
    go_wp2_with fail
    rw [← hw1]
    clear hw1
    refine CK.out.mono ?_
    rintro e w2 ⟨rfl,hb2⟩
    have X12:=Lh (X1.out.below hb2 X1.out.lt)
    have X22:=Lh (X2.out.below hb2 X2.out.lt)
    have B2:=Lh (BEL.out.trans (hb2.mono BEL.out.size))
    clear hb2 c0 c1
    obtain ⟨w3,hw3⟩:∃ w3,w3=w2.alloc (.cells #[.int .i64 t,.slice Ab nb cb] 33):=⟨_,rfl⟩
    have hb23:Below w2.heap.size w2 w3:=by rw [hw3];exact (Below.refl _ _).alloc (Nat.le_refl _) _
    have hp3:Blk w3 w2.heap.size 33 [.int .i64 t,.slice Ab nb cb]:=by rw [hw3];exact Blk.new w2 33 _
    have X13:=X12.out.below hb23 X12.out.lt
    have X23:=X22.out.below hb23 X22.out.lt
    have d0:=X13.cell 0
    have p0:=hp3.cell 0
    have p1:=hp3.cell 1
    simp only [gcZ,gcS] at d0 p0 p1
    have B3:=B2.out.trans (hb23.mono B2.out.size)
    have AW3:=Lh (AW.out w3 (HB.out.below B3))
    have hb34:Below w3.heap.size w3 (w3.alloc (.cells #[.int .i64 t,.slice Ab nb cb] 33)):=(Below.refl _ _).alloc (Nat.le_refl _) _
    have X24:=Lh (X23.below hb34 X23.lt)
    have X14:=Lh (X13.below hb34 X13.lt)
    have P4:=Lh (hp3.below hb34 hp3.lt)
    have B4:=Lh (B3.trans (hb34.mono B3.size))
    clear hb23 hp3 X13 X23 B3 hb34 AW
    go_upto_region 5 with fail
    rw [← hw3]
    clear hw3
    go_wp2_with fail
    refine AW3.out.mono ?_
    rintro e w5 ⟨rfl,hb5⟩
    have x5:=X24.out.below hb5 X24.out.lt
    have y5:=X14.out.below hb5 X14.out.lt
    have d1:=y5.cell 1
    have B5:=Lh (B4.out.trans (hb5.mono B4.out.size))
    have e0:=x5.cell 0
    have e1:=x5.cell 1
    have g0:=x5.free 0
    have g1:=x5.free 1
    simp only [gcZ,gcS] at e0 e1 d1
    have z:=x5.two (.slice none 0 0) (.slice none 0 0)
    have z0:=z.cell 0
    have z1:=z.cell 1
    simp only [gcZ,gcS] at z0 z1
    clear hb5 x5 y5 z
    go_wp2
    refine bodyPost_ret (v:=.tuple #[diskV none 0 0 none 0 0,.int .i64 9]) ?_ rfl ⟨none,0,none,0,rfl,OwnDsk.nil _ _,below_two B5.out (by omega) _ _⟩
    clear e0 e1 g0 g1
    simp [results,Try.f39,go_sem,z0,z1]
   ·have hE:=K4 rfl rfl (by have:=K5 rfl;omega)
    have hn64l:n' < 64:=by have:=K5 rfl;omega
    rw [hSS hE,hCC hE,hE]
    clear K2 K3 K4 K5 hSS hCC hSN hCN hE
    go_enter Try.func39,Try.ntmps39
    go_wp2_with fail
    rw [← hw1]
    clear hw1
    refine CK.out.mono ?_
    rintro e w2 ⟨rfl,hb2⟩
    have X12:=Lh (X1.out.below hb2 X1.out.lt)
    have X22:=Lh (X2.out.below hb2 X2.out.lt)
    have B2:=Lh (BEL.out.trans (hb2.mono BEL.out.size))
    clear hb2 c0 c1
    obtain ⟨w3,hw3⟩:∃ w3,w3=w2.alloc (.cells #[.int .i64 t,.slice Ab nb cb] 33):=⟨_,rfl⟩
    have hb23:Below w2.heap.size w2 w3:=by rw [hw3];exact (Below.refl _ _).alloc (Nat.le_refl _) _
    have hp3:Blk w3 w2.heap.size 33 [.int .i64 t,.slice Ab nb cb]:=by rw [hw3];exact Blk.new w2 33 _
    have X13:=X12.out.below hb23 X12.out.lt
    have X23:=X22.out.below hb23 X22.out.lt
    have d0:=X13.cell 0
    have p0:=hp3.cell 0
    have p1:=hp3.cell 1
    simp only [gcZ,gcS] at d0 p0 p1
    have B3:=B2.out.trans (hb23.mono B2.out.size)
    have AW3:=Lh (AW.out w3 (HB.out.below B3))
    have hb34:Below w3.heap.size w3 (w3.alloc (.cells #[.int .i64 t,.slice Ab nb cb] 33)):=(Below.refl _ _).alloc (Nat.le_refl _) _
    have X24:=Lh (X23.below hb34 X23.lt)
    have X14:=Lh (X13.below hb34 X13.lt)
    have P4:=Lh (hp3.below hb34 hp3.lt)
    have B4:=Lh (B3.trans (hb34.mono B3.size))
    clear hb23 hp3 X13 X23 B3 hb34 AW
    go_upto_region 5 with fail
    rw [← hw3]
    clear hw3
    go_wp2_with fail
    refine AW3.out.mono ?_
    rintro e w5 ⟨rfl,hb5⟩
    have h64:((n':Int) == 64)=false:=beq_eq_false_iff_ne.2 (by omega)
    have h64i:¬ (n':Int)=64:=by omega
    have x5:=X24.out.below hb5 X24.out.lt
    have y5:=X14.out.below hb5 X14.out.lt
    have p5:=P4.out.below hb5 P4.out.lt
    have B5:=Lh (B4.out.trans (hb5.mono B4.out.size))
    have d1:=y5.cell 1
    have d2:=y5.cell 0
    simp only [gcZ,gcS] at d1 d2
    have TW:=Lh (ptwin_any A n c A' n' c' S C w5 (H.out.below B5.out) SM.out)
    have hR5l:=x5.lt
    have R5:=Lh x5
    have P5:=Lh p5
    obtain ⟨HP,hHP⟩:∃ HP,HP=w2.heap.size:=⟨_,rfl⟩
    rw [← hHP] at P5 p0 p1
    have hHPl:=P5.out.lt
    have hHPw:w.heap.size≤HP:=by rw [hHP];exact B2.out.size
    clear hb5 x5 y5 p5 P4 X14 X24 B4
    go_wp2_with fail
    rw [← hHP]
    clear hHP p0 p1
    refine TW.out.mono ?_
    rintro e w6 ⟨B,d,B',d',rfl,hown,hb6⟩
    have p6:=P5.out.below hb6 P5.out.lt
    have r6:=R5.out.below hb6 R5.out.lt
    have B6:=B5.out.trans (hb6.mono B5.out.size)
    obtain ⟨w7,hw7⟩:∃ w7,w7=w6.alloc (.cells #[.slice B n d,.slice B' n' d'] 56):=⟨_,rfl⟩
    have hb67:Below w6.heap.size w6 w7:=by rw [hw7];exact (Below.refl _ _).alloc (Nat.le_refl _) _
    have o7:Blk w7 w6.heap.size 56 [.slice B n d,.slice B' n' d']:=by rw [hw7];exact Blk.new w6 56 _
    obtain ⟨HO,hHO⟩:∃ HO,HO=w6.heap.size:=⟨_,rfl⟩
    rw [← hHO] at o7
    have hHO5:w5.heap.size≤HO:=by rw [hHO];exact hb6.size
    have OWN7:=Lh (hown.below hb67)
    have P7:=Lh (p6.below hb67 p6.lt)
    have R7:=Lh (r6.below hb67 r6.lt)
    have O7:=Lh o7
    have B7:=Lh (B6.trans (hb67.mono B6.size))
    have CL:=Lh (bclone_any Ab nb cb b w7 (HB.out.below B7.out) (by omega))
    have HHO5:=Lh hHO5
    clear hown hb6 p6 r6 B6 hb67 o7 TW P5 R5 d1 d2
    go_upto_region 10 with fail
    rw [← hw7,← hHO]
    clear hw7 hHO
    go_wp2_with fail
    refine CL.out.mono ?_
    rintro e w8 ⟨A8,c8,rfl,hown8,hb8⟩
    have hs78:=hb8.size
    have hO7l:=O7.out.lt
    have hP7l:=P7.out.lt
    have p8:=P7.out.below hb8 P7.out.lt
    have o8:=O7.out.below hb8 O7.out.lt
    have r8:=R7.out.below hb8 R7.out.lt
    have k0:=p8.cell 0
    have k1:=p8.cell 1
    have kf:=p8.free 1
    simp only [gcZ,gcS] at k0 k1
    have hPO:HP≠HO:=by have:=HHO5.out;omega
    have hPR:w.heap.size + 1≠HP:=by
     intro e
     have h1:=R7.out
     have h2:=P7.out
     rw [← e] at h2
     exact absurd (h1.ty h2) (by decide)
    obtain ⟨w9,hw9⟩:∃ w9,w9=w8.setCell ⟨HP,1,none⟩ (.slice A8 nb c8):=⟨_,rfl⟩
    have p9:Blk w9 HP 33 [.int .i64 t,.slice A8 nb c8]:=by rw [hw9];exact p8.set 1 _
    have o9:Blk w9 HO 56 [.slice B n d,.slice B' n' d']:=by rw [hw9];exact o8.away (Ne.symm hPO) 1 _
    have r9:Blk w9 (w.heap.size + 1) 56 [.slice none 0 0,.slice none 0 0]:=by rw [hw9];exact r8.away hPR 1 _
    have OWN9:OwnDsk w9 w5.heap.size B n d B' n' d' S C:=by rw [hw9];exact (OWN7.out.below hb8).away hHPl 1 _
    have hown9:w9.ownsRow w5.heap.size 5 1 (.slice A8 nb c8) nb (ints .u8 b):=by
     rw [hw9]
     exact owns_other_box (owns_base hown8 (Nat.le_trans HHO5.out (Nat.le_of_lt hO7l))) p8 (by decide) 1 _
    have B9:Below w.heap.size w w9:=by
     rw [hw9]
     exact (B7.out.trans (hb8.mono B7.out.size)).setCell (p:=⟨HP,1,none⟩) hHPw _
    have hs9:w9.heap.size=w8.heap.size:=by rw [hw9];simp [World.setCell]
    have h59:w5.heap.size≤w9.heap.size:=by have:=HHO5.out;omega
    obtain ⟨g',c',w11,hrun,hP11,hb11,hg11⟩:=run_pnd w9 w9 54 w5.heap.size B' n' d' C OWN9.pnds A8 nb c8 t b HBY.out hown9 (by omega) (Below.refl _ _) h59
    have hb910:Below w9.heap.size w9 (w9.alloc (.cells #[.int .i64 t,.slice A8 nb c8] 33)):=(Below.refl _ _).alloc (Nat.le_refl _) _
    have S11:=(OWN9.secs.below hb910).beside (OWN9.pnds.below hb910) hg11
    have o10:=o9.below hb910 o9.lt
    have o11:Blk w11 HO 56 [.slice B n d,.slice B' n' d']:=o10.grown hg11 ((OWN9.pnds.below hb910).not_blk o10)
    have r11:Blk w11 (w.heap.size + 1) 56 [.slice none 0 0,.slice none 0 0]:=r9.below hb11 hR5l
    have B11:=B9.trans (hb11.mono B5.out.size)
    have j0:=o9.cell 1
    have j1:=p9.cell 0
    have j2:=p9.cell 1
    have j3:=o11.cell 1
    have j4:=o11.free 1
    simp only [gcZ,gcS] at j0 j1 j2 j3
    have o12:=o11.set 1 (.slice (some ⟨g',0,none⟩) (n' + 1) c')
    have i0:=o12.cell 0
    have i1:=o12.cell 1
    simp only [gcZ,gcS,scZ,scS] at i0 i1
    have hRO:w.heap.size + 1≠HO:=by have:=HHO5.out;omega
    have r12:=r11.away hRO 1 (.slice (some ⟨g',0,none⟩) (n' + 1) c')
    have e0:=r12.cell 0
    have e1:=r12.cell 1
    have g0:=r12.free 0
    have g1:=r12.free 1
    have z:=r12.two (.slice B n d) (.slice (some ⟨g',0,none⟩) (n' + 1) c')
    have z0:=z.cell 0
    have z1:=z.cell 1
    simp only [gcZ,gcS] at e0 e1 z0 z1
    have O12:=((OwnDsk.mk S11 hP11).box o11 1 (.slice (some ⟨g',0,none⟩) (n' + 1) c')).two r12 (.slice B n d) (.slice (some ⟨g',0,none⟩) (n' + 1) c')
    have O13:=Lh (O12.lower B5.out.size)
    have hHOw:w.heap.size≤HO:=Nat.le_trans B5.out.size HHO5.out
    have B13:=Lh (below_two (B11.setCell (p:=⟨HO,1,none⟩) hHOw (.slice (some ⟨g',0,none⟩) (n' + 1) c')) (show w.heap.size≤w.heap.size + 1 by omega) (.slice B n d) (.slice (some ⟨g',0,none⟩) (n' + 1) c'))
    have HRUN:=Lh hrun
    clear hown8 hb8 p8 o8 r8 p9 o9 r9 OWN9 hown9 B9 hs9 h59 hrun hP11 hb11 hg11 hb910 S11 o10 o11 r11 B11 o12 r12 z O12 hs78 hO7l hP7l hR5l hHOw hHPl hHPw
    go_upto_region 11 with fail
    rw [← hw9]
    clear hw9 k0 k1 kf
    go_wp2_with (at_builtin;refine wpList_app_eq rfl (.tmp 39) (.tmp 41) 54 54 rfl rfl rfl HRUN.out ?_)
    refine bodyPost_ret (v:=.tuple #[diskV B n d (some ⟨g',0,none⟩) (n' + 1) c',.int .i64 0]) ?_ rfl ⟨B,d,some ⟨g',0,none⟩,c',by rw [HL.out,List.length_append,HL'.out];rfl,by rw [HL.out,List.length_append,HL'.out];exact O13.out,B13.out⟩
    clear i0 i1 j0 j1 j2 j3 j4 e0 e1 g0 g1
    simp [results,Try.f39,go_sem,z0,z1]
 ·have hE:=K1 he
  rw [hSN (by rw [hE];exact he),hCN (by rw [hE];exact he),hE]
  have hne:(E != 0)=true:=bne_iff_ne.2 he
  clear K1 K2 K3 K4 K5 hSS hCC hSN hCN hE he
  go_enter Try.func39,Try.ntmps39
  go_wp2_with fail
  rw [← hw1]
  clear hw1
  refine CK.out.mono ?_
  rintro e w2 ⟨rfl,hb2⟩
  have x2:=X2.out.below hb2 X2.out.lt
  have B2:=Lh (BEL.out.trans (hb2.mono BEL.out.size))
  have e0:=x2.cell 0
  have e1:=x2.cell 1
  have g0:=x2.free 0
  have g1:=x2.free 1
  simp only [gcZ,gcS] at e0 e1
  have z:=x2.two (.slice none 0 0) (.slice none 0 0)
  have z0:=z.cell 0
  have z1:=z.cell 1
  simp only [gcZ,gcS] at z0 z1
  clear hb2 x2 z c0 c1
  go_wp2
  refine bodyPost_ret (v:=.tuple #[diskV none 0 0 none 0 0,.int .i64 E]) ?_ rfl ⟨none,0,none,0,rfl,OwnDsk.nil _ _,below_two B2.out (by omega) _ _⟩
  clear e0 e1 g0 g1
  simp [results,Try.f39,go_sem,z0,z1]
end Go.Proofs.Ytdbeiikaeccbhaa
