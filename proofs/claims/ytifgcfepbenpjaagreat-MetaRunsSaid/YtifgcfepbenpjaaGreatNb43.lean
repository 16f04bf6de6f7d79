/- Texts of layers 1 to 12, joined. -/
import Derived.Test.YtifgcfepbenpjaaGreatNb42
import Derived.Deep.Cut
import Derived.Deep.CutRange
set_option maxRecDepth 100000
set_option maxHeartbeats 12800000
set_option linter.unusedVariables false
namespace Go.Proofs.YtifgcfepbenpjaaGreat
open Go.RowKit
theorem rows_step {A a g:Int} {t:List Rc} {k:Nat} (hk:k < t.length):wrA ((rowsP A a g t).take (k + 1))=wrA ((rowsP A a g t).take k) ++ [(1,2 + a * A + (k:Int),jT g (k:Int) (recT (t.getD k zR)))]:=by
 have h0:k < (rowsP A a g t).length:=by unfold rowsP;rw [writesP_len];exact hk
 rw [wrA_step h0]
 have e:(rowsP A a g t).getD k (0,[])=(2 + a * A + (k:Int),jT g (k:Int) (recT (t.getD k zR))):=by
  unfold rowsP
  rw [writesP_eq,gtD,List.getElem?_map,List.getElem?_range hk,Option.map_some,Option.getD_some,rowsT_at g t hk]
 rw [e]
theorem map_rec_at {t:List Rc} {k:Nat} (hk:k < t.length):(t.map recT).getD k []=recT (t.getD k zR):=by
 rw [gtD,List.getElem?_map,gtD,geE hk]
 rfl
theorem panew_any (G:Nat) (l:List Ac) (P T A M W Q:Int) (D:Option Addr) (nd d:Nat) (D':Option Addr) (nd' d':Nat) (S:List Sec) (C:List Pnd) (v a g n u:Int) (B:Option Addr) (k c:Nat) (t:List Rc) (base:Nat) (Bt:Option Addr) (kt ct:Nat) (t':List Rc) (w0 w:World) (hc:Gath w G l) (hq:Dsk w0 D nd d D' nd' d' S C) (hs:SmallD S C) (hwG:w0.heap.size≤G) (hb0:Below w0.heap.size w0 w) (hm:mayT P T A M W Q S C) (hkm:mayM P T A M W Q ⟨(v,a,g),n,u,t⟩) (hi:isS (v,a,g)) (ht:OwnRecs w base Bt kt ct t') (hmt:mayTab t') (hl:l.length≤100) :
  Calls Tryz.prog 70 #[ldV P T A M W Q D nd d D' nd' d' v a g n u B k c,.slice Bt kt ct,colF G] w (StepOut w G base (if (if u=65535 then 9 else spE P T A M W Q S C (v,1 - a,65536 * v + u + 1))=0 then ⟨(v,1 - a,65536 * v + u + 1),(t'.length:Int),u + 1,t'⟩ else zM) (l ++ (actsA (rowsP A (1 - a) (65536 * v + u + 1) t') ++ actsA (spL P T A M W Q S C (v,1 - a,65536 * v + u + 1)))) (if u=65535 then 9 else spE P T A M W Q S C (v,1 - a,65536 * v + u + 1))):=by
 have hlen:t'.length=kt:=ht.2.1
 obtain ⟨x,hb1⟩:=led_box w P T A M W Q D nd d D' nd' d' v a g n u B k c
 obtain ⟨z,h2⟩:=met_box (w.alloc (.cells #[.int .i64 P,.int .i64 T,.int .i64 A,.int .i64 M,.int .i64 W,.int .i64 Q,.slice D nd d,.slice D' nd' d',.int .u32 v,.int .i64 a,.int .u64 g,.int .i64 n,.int .i64 u,.slice B k c] 90)) 0 0 0 0 0 none 0 0
 rw [World.size_alloc] at z
 replace x:=x.below h2 x.lt
 replace hb1:=hb1.trans (h2.mono hb1.size)
 obtain ⟨w1,hw1⟩:∃ y,y=((w.alloc (.cells #[.int .i64 P,.int .i64 T,.int .i64 A,.int .i64 M,.int .i64 W,.int .i64 Q,.slice D nd d,.slice D' nd' d',.int .u32 v,.int .i64 a,.int .u64 g,.int .i64 n,.int .i64 u,.slice B k c] 90)).alloc (.cells #[.int .u32 0,.int .i64 0,.int .u64 0,.int .i64 0,.int .i64 0,.slice none 0 0] 32)):=⟨_,rfl⟩
 rw [← hw1] at x z hb1
 have X:=Lh x
 have Z:=Lh z
 have CO:=Lh (GathOut.of hc hb1)
 have B0:=Lh (hb0.trans (hb1.mono hb0.size))
 have OT:=Lh (ht.below hb1)
 have HGL:=Lh (show G < w.heap.size from hc.lt)
 have HWL:=Lh hb1.size
 obtain ⟨c0,c1,c2,c3,c4,c5,c6,c7,d0,d1,d2,d3,d4,d5⟩:=x.led
 have har:arS a:=hkm.2.1
 have hu0:0≤u∧u≤65535:=hkm.2.2.2.1
 clear x z hc hb0 h2 hb1
 unfold StepOut
 by_cases hu:u=65535
 ·rw [if_pos hu,if_neg (by decide)]
  subst hu
  dsimp only [zM,List.length_nil]
  clear hi hq hs ht hlen hl hm hkm har hu0 hmt
  go_enter Tryz.func70,Tryz.ntmps70
  go_upto_region 1 with fail
  rw [← hw1]
  clear hw1
  have fz:=Z.out.free
  obtain ⟨e0,e1,e2,e3,e4,e5⟩:=Z.out.met
  go_wp2
  obtain ⟨z0,z1,z2,z3,z4,z5⟩:=(Z.out.sixM 0 0 0 0 0 none 0 0).met
  refine bodyPost_ret (v:=.tuple #[metV 0 0 0 0 0 none 0 0,.int .i64 9]) ?_ rfl ⟨none,0,l,rfl,OwnRecs.nil _ _,CO.out.sixM Z.out (by have:=HGL.out;omega) (by omega) 0 0 0 0 0 none 0 0,fun h=>by cases h⟩
  clear c0 c1 c2 c3 c4 c5 c6 c7 d0 d1 d2 d3 d4 d5 fz e0 e1 e2 e3 e4 e5
  simp [results,Tryz.f70,go_sem,z0,z1,z2,z3,z4,z5]
 ·rw [if_neg hu]
  have hv0:0≤v∧v < 4294967296:=hi.1
  have hgen:isG (65536 * v + u + 1):=⟨by omega,by omega⟩
  have ha2:arJ (1 - a):=by unfold arS at har;unfold arJ;omega
  have hA:(3:Int)≤A:=by have h:=hm.1;unfold mayC at h;omega
  have h3:kt≤3:=by rw [← hlen];exact three_of12 hmt
  have hwr0:IntKind.i64.wrap (1 - a)=1 - a:=by
   unfold arS at har
   rcases har with h | h <;> subst h <;> rfl
  have NG:=Lh (fun wx=>pnext_any P T A M W Q D nd d D' nd' d' v a g n u B k c wx hv0 hu0)
  have NT:=Lh (fun wx hx=>pnotes11_any Bt kt ct t' wx hx (by omega))
  rw [show rnE t'=0 from if_pos hmt,show rnL t'=t'.map recT from if_pos hmt] at NT
  unfold NotesOut at NT
  rw [List.length_map,hlen] at NT
  obtain ⟨gen,hge⟩:∃ y,y=65536 * v + u + 1:=⟨_,rfl⟩
  obtain ⟨a2,ha2e⟩:∃ y,y=1 - a:=⟨_,rfl⟩
  rw [← hge] at NG hgen ⊢
  have hwr:IntKind.i64.wrap (1 - a)=a2:=by rw [ha2e];exact hwr0
  clear hwr0
  rw [← ha2e] at ha2 ⊢
  have WN:=Lh (fun (j:Nat) (hj:j < kt) lx (Ab:Option Addr) nb cb wx (hx:Gath wx G lx) (hy:Below w0.heap.size w0 wx) (hz:Arg wx .u8 Ab nb cb (recT (t'.getD j zR))) (hw:lx.length≤500)=>pwnote_any G lx P T A M W Q D nd d D' nd' d' S C v a g n u B k c v a2 gen (j:Int) Ab nb cb (recT (t'.getD j zR)) w0 wx hx hq hs hy hgen hz (recT_byte _) hm ha2 ⟨by omega,by omega⟩ (by rw [recT_length];decide) (by rw [recT_length];decide) hw)
  have WS:=Lh (fun lx wx hx hy hz=>pwsuper_any G lx P T A M W Q D nd d D' nd' d' S C v a g n u B k c v a2 gen w0 wx hx hq hs hy ⟨hv0,hgen⟩ hz)
  obtain ⟨E,hE⟩:∃ y,y=spE P T A M W Q S C (v,a2,gen):=⟨_,rfl⟩
  obtain ⟨ps,hps⟩:∃ y,y=spL P T A M W Q S C (v,a2,gen):=⟨_,rfl⟩
  rw [← hE,← hps] at WS ⊢
  obtain ⟨rp,hrp⟩:∃ y,y=rowsP A a2 gen t':=⟨_,rfl⟩
  have RS:=Lh (fun k (hk:k < kt)=>rows_step (A:=A) (a:=a2) (g:=gen) (t:=t') (k:=k) (by rw [hlen];exact hk))
  rw [← hrp] at RS ⊢
  have hrl:rp.length=kt:=by rw [hrp];unfold rowsP;rw [writesP_len,hlen]
  have RL:=Lh hrl
  have HL:=Lh (fun k=>(show (l ++ wrA (rp.take k)).length≤103 by simp [wrA];omega))
  have HA:=Lh (show l ++ wrA (rp.take kt) ++ [(2,0,[])]=l ++ actsA rp by rw [← hrl,List.take_length,List.append_assoc];rfl)
  have MR:=Lh (fun k (hk:k < kt)=>map_rec_at (t:=t') (k:=k) (by rw [hlen];exact hk))
  obtain ⟨u',rfl⟩:∃ x:Nat,u=(x:Int):=⟨u.toNat,by omega⟩
  have hu':u' < 65535:=by omega
  have hue:((u':Int) == 65535)=false:=beq_eq_false_iff_ne.2 hu
  obtain ⟨tl,htl⟩:∃ y,y=t'.map recT:=⟨_,rfl⟩
  rw [← htl] at NT MR
  have hkt3:kt≤3:=h3
  clear hu hi hq hs hm hkm har hu0 hmt hv0 hgen ha2 hA h3 hge ha2e hE hps hrp hrl hl ht htl
  by_cases h0:E=0
  ·subst h0
   rw [if_pos rfl]
   dsimp only
   rw [hlen]
   clear hlen
   go_enter Tryz.func70,Tryz.ntmps70
   go_upto_region 1 with fail
   rw [← hw1]
   clear hw1
   go_upto_region 3 with fail
   obtain ⟨GX,hGX⟩:∃ y,y=w.heap.size:=⟨_,rfl⟩
   have hcur:Below w1.heap.size w1 w1.drew:=below_drewN (Below.refl _ _) 1
   have keepX:∀ wx,Below w1.heap.size w1 wx→wx.cell? ⟨w.heap.size,0,none⟩=some (.int .i64 P)∧wx.cell? ⟨w.heap.size,1,none⟩=some (.int .i64 T)∧wx.cell? ⟨w.heap.size,2,none⟩=some (.int .i64 A)∧wx.cell? ⟨w.heap.size,3,none⟩=some (.int .i64 M)∧wx.cell? ⟨w.heap.size,4,none⟩=some (.int .i64 W)∧wx.cell? ⟨w.heap.size,5,none⟩=some (.int .i64 Q)∧wx.cell? ⟨w.heap.size,6,none⟩=some (.slice D nd d)∧wx.cell? ⟨w.heap.size,7,none⟩=some (.slice D' nd' d')∧wx.cell? ⟨w.heap.size,8,none⟩=some (.int .u32 v)∧wx.cell? ⟨w.heap.size,9,none⟩=some (.int .i64 a)∧wx.cell? ⟨w.heap.size,10,none⟩=some (.int .u64 g)∧wx.cell? ⟨w.heap.size,11,none⟩=some (.int .i64 n)∧wx.cell? ⟨w.heap.size,12,none⟩=some (.int .i64 (u':Int))∧wx.cell? ⟨w.heap.size,13,none⟩=some (.slice B k c):=fun wx hx=>(X.out.below hx X.out.lt).led
   have hkX:=keepX _ hcur
   go_cut [8] from 19 to 30 (fun x wx=>∃ h:Nat,x=.pointer (some ⟨h,0,none⟩)∧w1.heap.size≤h∧Blk wx h 29 [.int .u32 v,.int .i64 a2,.int .u64 gen]∧Below w1.heap.size w1 wx)
   case first =>
    go_region_held3 (fun w'=>w'.cell? ⟨w.heap.size,0,none⟩=some (.int .i64 P)∧w'.cell? ⟨w.heap.size,1,none⟩=some (.int .i64 T)∧w'.cell? ⟨w.heap.size,2,none⟩=some (.int .i64 A)∧w'.cell? ⟨w.heap.size,3,none⟩=some (.int .i64 M)∧w'.cell? ⟨w.heap.size,4,none⟩=some (.int .i64 W)∧w'.cell? ⟨w.heap.size,5,none⟩=some (.int .i64 Q)∧w'.cell? ⟨w.heap.size,6,none⟩=some (.slice D nd d)∧w'.cell? ⟨w.heap.size,7,none⟩=some (.slice D' nd' d')∧w'.cell? ⟨w.heap.size,8,none⟩=some (.int .u32 v)∧w'.cell? ⟨w.heap.size,9,none⟩=some (.int .i64 a)∧w'.cell? ⟨w.heap.size,10,none⟩=some (.int .u64 g)∧w'.cell? ⟨w.heap.size,11,none⟩=some (.int .i64 n)∧w'.cell? ⟨w.heap.size,12,none⟩=some (.int .i64 (u':Int))∧w'.cell? ⟨w.heap.size,13,none⟩=some (.slice B k c))
     (first | exact hkX | exact keepX _ (below_drewN ((Below.refl _ _).alloc (Nat.le_refl _) _) 1) | exact keepX _ (hcur.alloc hcur.size _) | exact keepX _ (((hcur.setCell (p:=⟨_,0,none⟩) hL _).setCell (p:=⟨_,1,none⟩) hL _).setCell (p:=⟨_,2,none⟩) hL _) | go_keep)
     (first
      | (go_at_call 112;have hM:=hcur.size;with_reducible refine (NG.out w1.drew).mono ?_;rintro e w3 ⟨rfl,hb⟩;have hcur:=hcur.trans (hb.mono hcur.size);have hkX:=keepX _ hcur;try (have hZ:=hZ.below hb hZ.lt;have z0:=hZ.cell 0;have z1:=hZ.cell 1;have z2:=hZ.cell 2;have g0:=hZ.free 0;have g1:=hZ.free 1;have g2:=hZ.free 2;simp only [gcZ,gcS] at z0 z1 z2))
      | (go_at_call 112;have hL:=Nat.le_refl w1.heap.size;have hcur:Below w1.heap.size w1 (w1.alloc (.cells #[.int .u32 0,.int .i64 0,.int .u64 0] 29)).drew:=below_drewN ((Below.refl _ _).alloc (Nat.le_refl _) _) 1;have hZ0:=Blk.new w1 29 [.int .u32 0,.int .i64 0,.int .u64 0];have hZ:=hZ0.below (below_drewN (Below.refl _ _) 1) hZ0.lt;have hM:=hcur.size;with_reducible refine (NG.out _).mono ?_;rintro e w3 ⟨rfl,hb⟩;have hZ:=hZ.below hb hZ.lt;have hcur:=hcur.trans (hb.mono hcur.size);have hkX:=keepX _ hcur;have z0:=hZ.cell 0;have z1:=hZ.cell 1;have z2:=hZ.cell 2;have g0:=hZ.free 0;have g1:=hZ.free 1;have g2:=hZ.free 2;simp only [gcZ,gcS] at z0 z1 z2))
    all_goals (go_wp2_with fail;go_meet)
    all_goals first
     | exact ⟨_,rfl,hcur.size,Blk.new _ _ _,hcur.alloc hcur.size _⟩
     | exact ⟨_,rfl,hL,((hZ.set 0 _).set 1 _).set 2 _,((hcur.setCell (p:=⟨_,0,none⟩) hL _).setCell (p:=⟨_,1,none⟩) hL _).setCell (p:=⟨_,2,none⟩) hL _⟩
   case rest =>
    obtain ⟨h,rfl,hh,hS,hb⟩:=hcut
    have SB:=Lh hS
    have X:=Lh (X.out.below hb X.out.lt)
    have Z:=Lh (Z.out.below hb Z.out.lt)
    have CO:=Lh (CO.out.more hb)
    have B0:=Lh (B0.out.trans (hb.mono B0.out.size))
    have OT:=Lh (OT.out.below hb)
    clear hb hS hh keepX hkX hcur NG hGX hwr c0 c1 c2 c3 c4 c5 c6 c7 d0 d1 d2 d3 d4 d5
    obtain ⟨c0,c1,c2,c3,c4,c5,c6,c7,d0,d1,d2,d3,d4,d5⟩:=X.out.led
    obtain ⟨s0,s1,s2⟩:=SB.out.tri
    go_wp2_with fail
    refine (NT.out _ (Recs.of_own OT.out)).mono ?_
    rintro e w4 ⟨AN,cN,rfl,hown,hb⟩
    have ON:=Lh hown
    have X:=Lh (X.out.below hb X.out.lt)
    have SB:=Lh (SB.out.below hb SB.out.lt)
    have Z:=Lh (Z.out.below hb Z.out.lt)
    have CO:=Lh (CO.out.more hb)
    have B0:=Lh (B0.out.trans (hb.mono B0.out.size))
    have OT:=Lh (OT.out.below hb)
    clear hb hown NT s0 s1 s2 c0 c1 c2 c3 c4 c5 c6 c7 d0 d1 d2 d3 d4 d5
    go_wp2
    go_loopw [38] (fun i wr=>∃ k:Nat,k≤kt∧i=.int .i64 k∧GathOut w4 G (l ++ wrA (rp.take k)) wr) (fun i _=>kt - (intOf i).toNat)
    case atStart=>exact ⟨0,Nat.zero_le _,rfl,by rw [show l ++ wrA (rp.take 0)=l by simp [wrA]];exact GathOut.refl CO.out.1⟩
    case round =>
     obtain ⟨k1,hk,rfl,hco⟩:=hrel
     have CL:=Lh hco
     have BW:=Lh (B0.out.trans (hco.2.1.mono hwG))
     have XR:=Lh (hco.2.2.blk X.out (by decide) (by decide))
     have SR:=Lh (hco.2.2.blk SB.out (by decide) (by decide))
     obtain ⟨c0,c1,c2,c3,c4,c5,c6,c7,d0,d1,d2,d3,d4,d5⟩:=XR.out.led
     obtain ⟨s0,s1,s2⟩:=SR.out.tri
     by_cases hkn:k1 < kt
     ·have hki:(k1:Int) < (kt:Int):=by omega
      have hch:kt≤cN∧cN≤maxLen:=⟨(Texts.of_own ON.out).cap,(Texts.of_own ON.out).max⟩
      obtain ⟨b,o,Ai,ni,ci,hAN,hlt,hcell,harg⟩:=(Texts.of_own (hco.2.2.texts ON.out)).at_ k1 hkn
      rw [MR.out k1 hkn] at harg
      subst hAN
      have W1:=Lh (WN.out k1 hkn (l ++ wrA (rp.take k1)) Ai ni ci wr hco.1 BW.out harg (by have:=HL.out k1;omega))
      have ST:=Lh (RS.out k1 hkn)
      clear hco harg
      go_wp2_with fail
      refine W1.out.mono ?_
      rintro e w5 ⟨rfl,ho⟩
      have C2:=Lh (CL.out.trans ho)
      clear ho W1 s0 s1 s2 c0 c1 c2 c3 c4 c5 c6 c7 d0 d1 d2 d3 d4 d5
      go_wp2
      go_roundw
      case rel=>exact ⟨k1 + 1,by omega,by go_num,by rw [ST.out,← List.append_assoc];exact C2.out⟩
      all_goals (try case measure=>simp [intOf];omega)
     ·obtain rfl:k1=kt:=by omega
      have PF:=Lh (pcflush_any G (l ++ wrA (rp.take k1)) wr hco.1 (by have:=HL.out k1;omega))
      clear hco
      go_wp2_with fail
      refine PF.out.mono ?_
      rintro e w5 ⟨rfl,ho⟩
      have CO:=Lh (CO.out.trans (CL.out.trans ho))
      have BW:=Lh (BW.out.trans (ho.2.1.mono hwG))
      have XR:=Lh (ho.2.2.blk XR.out (by decide) (by decide))
      have SR:=Lh (ho.2.2.blk SR.out (by decide) (by decide))
      have ZR:=Lh (ho.2.2.blk (CL.out.2.2.blk Z.out (by decide) (by decide)) (by decide) (by decide))
      have OR:=Lh (ho.2.2.recs (CL.out.2.2.recs OT.out))
      clear ho PF s0 s1 s2 c0 c1 c2 c3 c4 c5 c6 c7 d0 d1 d2 d3 d4 d5
      obtain ⟨c0,c1,c2,c3,c4,c5,c6,c7,d0,d1,d2,d3,d4,d5⟩:=XR.out.led
      obtain ⟨s0,s1,s2⟩:=SR.out.tri
      have W2:=Lh (WS.out (l ++ wrA (rp.take k1) ++ [(2,0,[])]) w5 CO.out.1 BW.out (by have:=HL.out k1;rw [List.length_append];simp only [List.length_cons,List.length_nil];omega))
      go_wp2_with fail
      refine W2.out.mono ?_
      rintro e w6 ⟨rfl,ho⟩
      have CO:=Lh (CO.out.trans ho)
      have XR:=Lh (ho.2.2.blk XR.out (by decide) (by decide))
      have SR:=Lh (ho.2.2.blk SR.out (by decide) (by decide))
      have ZR:=Lh (ho.2.2.blk ZR.out (by decide) (by decide))
      have OR:=Lh (ho.2.2.recs OR.out)
      clear ho W2 s0 s1 s2 c0 c1 c2 c3 c4 c5 c6 c7 d0 d1 d2 d3 d4 d5
      obtain ⟨c0,c1,c2,c3,c4,c5,c6,c7,d0,d1,d2,d3,d4,d5⟩:=XR.out.led
      obtain ⟨s0,s1,s2⟩:=SR.out.tri
      have fz:=ZR.out.free
      obtain ⟨e0,e1,e2,e3,e4,e5⟩:=ZR.out.met
      go_wp2
      obtain ⟨z0,z1,z2,z3,z4,z5⟩:=(ZR.out.sixM v a2 gen (k1:Int) ((u':Int) + 1) Bt k1 ct).met
      refine bodyPost_ret (v:=.tuple #[metV v a2 gen (k1:Int) ((u':Int) + 1) Bt k1 ct,.int .i64 0]) ?_ rfl ⟨Bt,ct,_,rfl,OR.out.boxSix ZR.out _ _ _ _ _ _ _ _,CO.out.sixM ZR.out (by have:=HGL.out;omega) (by omega) _ _ _ _ _ _ _ _,fun _=>by rw [HA.out,List.append_assoc];exact if_pos trivial⟩
      clear c0 c1 c2 c3 c4 c5 c6 c7 d0 d1 d2 d3 d4 d5 s0 s1 s2 fz e0 e1 e2 e3 e4 e5
      simp [results,Tryz.f70,go_sem,z0,z1,z2,z3,z4,z5]
  ·rw [if_neg h0]
   simp only [if_neg h0] at WS
   have hz:(E != 0)=true:=by simpa using h0
   have HE:=Lh h0
   dsimp only [zM,List.length_nil]
   clear h0
   go_enter Tryz.func70,Tryz.ntmps70
   go_upto_region 1 with fail
   rw [← hw1]
   clear hw1
   go_upto_region 3 with fail
   obtain ⟨GX,hGX⟩:∃ y,y=w.heap.size:=⟨_,rfl⟩
   have hcur:Below w1.heap.size w1 w1.drew:=below_drewN (Below.refl _ _) 1
   have keepX:∀ wx,Below w1.heap.size w1 wx→wx.cell? ⟨w.heap.size,0,none⟩=some (.int .i64 P)∧wx.cell? ⟨w.heap.size,1,none⟩=some (.int .i64 T)∧wx.cell? ⟨w.heap.size,2,none⟩=some (.int .i64 A)∧wx.cell? ⟨w.heap.size,3,none⟩=some (.int .i64 M)∧wx.cell? ⟨w.heap.size,4,none⟩=some (.int .i64 W)∧wx.cell? ⟨w.heap.size,5,none⟩=some (.int .i64 Q)∧wx.cell? ⟨w.heap.size,6,none⟩=some (.slice D nd d)∧wx.cell? ⟨w.heap.size,7,none⟩=some (.slice D' nd' d')∧wx.cell? ⟨w.heap.size,8,none⟩=some (.int .u32 v)∧wx.cell? ⟨w.heap.size,9,none⟩=some (.int .i64 a)∧wx.cell? ⟨w.heap.size,10,none⟩=some (.int .u64 g)∧wx.cell? ⟨w.heap.size,11,none⟩=some (.int .i64 n)∧wx.cell? ⟨w.heap.size,12,none⟩=some (.int .i64 (u':Int))∧wx.cell? ⟨w.heap.size,13,none⟩=some (.slice B k c):=fun wx hx=>(X.out.below hx X.out.lt).led
   have hkX:=keepX _ hcur
   go_cut [8] from 19 to 30 (fun x wx=>∃ h:Nat,x=.pointer (some ⟨h,0,none⟩)∧w1.heap.size≤h∧Blk wx h 29 [.int .u32 v,.int .i64 a2,.int .u64 gen]∧Below w1.heap.size w1 wx)
   case first =>
    go_region_held3 (fun w'=>w'.cell? ⟨w.heap.size,0,none⟩=some (.int .i64 P)∧w'.cell? ⟨w.heap.size,1,none⟩=some (.int .i64 T)∧w'.cell? ⟨w.heap.size,2,none⟩=some (.int .i64 A)∧w'.cell? ⟨w.heap.size,3,none⟩=some (.int .i64 M)∧w'.cell? ⟨w.heap.size,4,none⟩=some (.int .i64 W)∧w'.cell? ⟨w.heap.size,5,none⟩=some (.int .i64 Q)∧w'.cell? ⟨w.heap.size,6,none⟩=some (.slice D nd d)∧w'.cell? ⟨w.heap.size,7,none⟩=some (.slice D' nd' d')∧w'.cell? ⟨w.heap.size,8,none⟩=some (.int .u32 v)∧w'.cell? ⟨w.heap.size,9,none⟩=some (.int .i64 a)∧w'.cell? ⟨w.heap.size,10,none⟩=some (.int .u64 g)∧w'.cell? ⟨w.heap.size,11,none⟩=some (.int .i64 n)∧w'.cell? ⟨w.heap.size,12,none⟩=some (.int .i64 (u':Int))∧w'.cell? ⟨w.heap.size,13,none⟩=some (.slice B k c))
     (first | exact hkX | exact keepX _ (below_drewN ((Below.refl _ _).alloc (Nat.le_refl _) _) 1) | exact keepX _ (hcur.alloc hcur.size _) | exact keepX _ (((hcur.setCell (p:=⟨_,0,none⟩) hL _).setCell (p:=⟨_,1,none⟩) hL _).setCell (p:=⟨_,2,none⟩) hL _) | go_keep)
     (first
      | (go_at_call 112;have hM:=hcur.size;with_reducible refine (NG.out w1.drew).mono ?_;rintro e w3 ⟨rfl,hb⟩;have hcur:=hcur.trans (hb.mono hcur.size);have hkX:=keepX _ hcur;try (have hZ:=hZ.below hb hZ.lt;have z0:=hZ.cell 0;have z1:=hZ.cell 1;have z2:=hZ.cell 2;have g0:=hZ.free 0;have g1:=hZ.free 1;have g2:=hZ.free 2;simp only [gcZ,gcS] at z0 z1 z2))
      | (go_at_call 112;have hL:=Nat.le_refl w1.heap.size;have hcur:Below w1.heap.size w1 (w1.alloc (.cells #[.int .u32 0,.int .i64 0,.int .u64 0] 29)).drew:=below_drewN ((Below.refl _ _).alloc (Nat.le_refl _) _) 1;have hZ0:=Blk.new w1 29 [.int .u32 0,.int .i64 0,.int .u64 0];have hZ:=hZ0.below (below_drewN (Below.refl _ _) 1) hZ0.lt;have hM:=hcur.size;with_reducible refine (NG.out _).mono ?_;rintro e w3 ⟨rfl,hb⟩;have hZ:=hZ.below hb hZ.lt;have hcur:=hcur.trans (hb.mono hcur.size);have hkX:=keepX _ hcur;have z0:=hZ.cell 0;have z1:=hZ.cell 1;have z2:=hZ.cell 2;have g0:=hZ.free 0;have g1:=hZ.free 1;have g2:=hZ.free 2;simp only [gcZ,gcS] at z0 z1 z2))
    all_goals (go_wp2_with fail;go_meet)
    all_goals first
     | exact ⟨_,rfl,hcur.size,Blk.new _ _ _,hcur.alloc hcur.size _⟩
     | exact ⟨_,rfl,hL,((hZ.set 0 _).set 1 _).set 2 _,((hcur.setCell (p:=⟨_,0,none⟩) hL _).setCell (p:=⟨_,1,none⟩) hL _).setCell (p:=⟨_,2,none⟩) hL _⟩
   case rest =>
    obtain ⟨h,rfl,hh,hS,hb⟩:=hcut
    have SB:=Lh hS
    have X:=Lh (X.out.below hb X.out.lt)
    have Z:=Lh (Z.out.below hb Z.out.lt)
    have CO:=Lh (CO.out.more hb)
    have B0:=Lh (B0.out.trans (hb.mono B0.out.size))
    have OT:=Lh (OT.out.below hb)
    clear hb hS hh keepX hkX hcur NG hGX hwr c0 c1 c2 c3 c4 c5 c6 c7 d0 d1 d2 d3 d4 d5
    obtain ⟨c0,c1,c2,c3,c4,c5,c6,c7,d0,d1,d2,d3,d4,d5⟩:=X.out.led
    obtain ⟨s0,s1,s2⟩:=SB.out.tri
    go_wp2_with fail
    refine (NT.out _ (Recs.of_own OT.out)).mono ?_
    rintro e w4 ⟨AN,cN,rfl,hown,hb⟩
    have ON:=Lh hown
    have X:=Lh (X.out.below hb X.out.lt)
    have SB:=Lh (SB.out.below hb SB.out.lt)
    have Z:=Lh (Z.out.below hb Z.out.lt)
    have CO:=Lh (CO.out.more hb)
    have B0:=Lh (B0.out.trans (hb.mono B0.out.size))
    have OT:=Lh (OT.out.below hb)
    clear hb hown NT s0 s1 s2 c0 c1 c2 c3 c4 c5 c6 c7 d0 d1 d2 d3 d4 d5
    go_wp2
    go_loopw [38] (fun i wr=>∃ k:Nat,k≤kt∧i=.int .i64 k∧GathOut w4 G (l ++ wrA (rp.take k)) wr) (fun i _=>kt - (intOf i).toNat)
    case atStart=>exact ⟨0,Nat.zero_le _,rfl,by rw [show l ++ wrA (rp.take 0)=l by simp [wrA]];exact GathOut.refl CO.out.1⟩
    case round =>
     obtain ⟨k1,hk,rfl,hco⟩:=hrel
     have CL:=Lh hco
     have BW:=Lh (B0.out.trans (hco.2.1.mono hwG))
     have XR:=Lh (hco.2.2.blk X.out (by decide) (by decide))
     have SR:=Lh (hco.2.2.blk SB.out (by decide) (by decide))
     obtain ⟨c0,c1,c2,c3,c4,c5,c6,c7,d0,d1,d2,d3,d4,d5⟩:=XR.out.led
     obtain ⟨s0,s1,s2⟩:=SR.out.tri
     by_cases hkn:k1 < kt
     ·have hki:(k1:Int) < (kt:Int):=by omega
      have hch:kt≤cN∧cN≤maxLen:=⟨(Texts.of_own ON.out).cap,(Texts.of_own ON.out).max⟩
      obtain ⟨b,o,Ai,ni,ci,hAN,hlt,hcell,harg⟩:=(Texts.of_own (hco.2.2.texts ON.out)).at_ k1 hkn
      rw [MR.out k1 hkn] at harg
      subst hAN
      have W1:=Lh (WN.out k1 hkn (l ++ wrA (rp.take k1)) Ai ni ci wr hco.1 BW.out harg (by have:=HL.out k1;omega))
      have ST:=Lh (RS.out k1 hkn)
      clear hco harg
      go_wp2_with fail
      refine W1.out.mono ?_
      rintro e w5 ⟨rfl,ho⟩
      have C2:=Lh (CL.out.trans ho)
      clear ho W1 s0 s1 s2 c0 c1 c2 c3 c4 c5 c6 c7 d0 d1 d2 d3 d4 d5
      go_wp2
      go_roundw
      case rel=>exact ⟨k1 + 1,by omega,by go_num,by rw [ST.out,← List.append_assoc];exact C2.out⟩
      all_goals (try case measure=>simp [intOf];omega)
     ·obtain rfl:k1=kt:=by omega
      have PF:=Lh (pcflush_any G (l ++ wrA (rp.take k1)) wr hco.1 (by have:=HL.out k1;omega))
      clear hco
      go_wp2_with fail
      refine PF.out.mono ?_
      rintro e w5 ⟨rfl,ho⟩
      have CO:=Lh (CO.out.trans (CL.out.trans ho))
      have BW:=Lh (BW.out.trans (ho.2.1.mono hwG))
      have XR:=Lh (ho.2.2.blk XR.out (by decide) (by decide))
      have SR:=Lh (ho.2.2.blk SR.out (by decide) (by decide))
      have ZR:=Lh (ho.2.2.blk (CL.out.2.2.blk Z.out (by decide) (by decide)) (by decide) (by decide))
      have OR:=Lh (ho.2.2.recs (CL.out.2.2.recs OT.out))
      clear ho PF s0 s1 s2 c0 c1 c2 c3 c4 c5 c6 c7 d0 d1 d2 d3 d4 d5
      obtain ⟨c0,c1,c2,c3,c4,c5,c6,c7,d0,d1,d2,d3,d4,d5⟩:=XR.out.led
      obtain ⟨s0,s1,s2⟩:=SR.out.tri
      have W2:=Lh (WS.out (l ++ wrA (rp.take k1) ++ [(2,0,[])]) w5 CO.out.1 BW.out (by have:=HL.out k1;rw [List.length_append];simp only [List.length_cons,List.length_nil];omega))
      go_wp2_with fail
      refine W2.out.mono ?_
      rintro e w6 ⟨rfl,ho⟩
      have CO:=Lh (CO.out.trans ho)
      have XR:=Lh (ho.2.2.blk XR.out (by decide) (by decide))
      have SR:=Lh (ho.2.2.blk SR.out (by decide) (by decide))
      have ZR:=Lh (ho.2.2.blk ZR.out (by decide) (by decide))
      have OR:=Lh (ho.2.2.recs OR.out)
      clear ho W2 s0 s1 s2 c0 c1 c2 c3 c4 c5 c6 c7 d0 d1 d2 d3 d4 d5
      obtain ⟨c0,c1,c2,c3,c4,c5,c6,c7,d0,d1,d2,d3,d4,d5⟩:=XR.out.led
      obtain ⟨s0,s1,s2⟩:=SR.out.tri
      have fz:=ZR.out.free
      obtain ⟨e0,e1,e2,e3,e4,e5⟩:=ZR.out.met
      go_wp2
      obtain ⟨z0,z1,z2,z3,z4,z5⟩:=(ZR.out.sixM 0 0 0 0 0 none 0 0).met
      refine bodyPost_ret (v:=.tuple #[metV 0 0 0 0 0 none 0 0,.int .i64 E]) ?_ rfl ⟨none,0,_,rfl,OwnRecs.nil _ _,CO.out.sixM ZR.out (by have:=HGL.out;omega) (by omega) _ _ _ _ _ _ _ _,fun h=>absurd h HE.out⟩
      clear c0 c1 c2 c3 c4 c5 c6 c7 d0 d1 d2 d3 d4 d5 s0 s1 s2 fz e0 e1 e2 e3 e4 e5
      simp [results,Tryz.f70,go_sem,z0,z1,z2,z3,z4,z5]
end Go.Proofs.YtifgcfepbenpjaaGreat
