/- Texts of layers 1 to 12, joined. -/
import Derived.Test.YtifgcfepbenpjaaGreatNa32
import Derived.KernelRfl
set_option maxRecDepth 100000
set_option maxHeartbeats 12800000
set_option linter.unusedVariables false
namespace Go.Proofs.YtifgcfepbenpjaaGreat
open Go.RowKit
end Go.Proofs.YtifgcfepbenpjaaGreat
namespace Go.Proofs.YtifgcfepbenpjaaGreat
open Go.RowKit Go.Maps
theorem ranges_below {w w':World} {P:Program} {k:TypeId} {R:Value→Option (DataW Unit × List MemPlace)} {b r n base:Nat} {D:DataW Unit} {left:Lit→Bool} {cnt:Nat} (h:w.ranges P k R b r n D left cnt) (hb:Below base w w') (h1:b < base) (h2:r < base):w'.ranges P k R b r n D left cnt:=by
 obtain ⟨es,clock,since,seen,c0,hb0,F,hs,hD,hr,rest⟩:=h
 exact ⟨es,clock,since,seen,c0,(hb.block b h1).trans hb0,F,hs,hD,(hb.block r h2).trans hr,rest⟩
theorem OwnRecs.under {w w':World} {base:Nat} {A:Option Addr} {n c:Nat} {L:List Rc} (h:OwnRecs w base A n c L) {row:Option Nat} (hg:w.grownBy w' row) (hr:∀ g,row=some g→g < base):OwnRecs w' base A n c L:=⟨owns_under h.1 hg hr,h.2.1,h.2.2⟩
theorem psorted_any (B n:Nat) (t:List Rc) (w:World) (ht:mayTab t) (h:TabAt w B n t) :
  Calls Tryz.prog 111 #[.map (some B)] w fun e w'=>∃ A' c',e=.returned (.slice A' t.length c')∧OwnRecs w' w.heap.size A' t.length c' t∧Below w.heap.size w w':=by
 have hBlt:=h.lt
 obtain ⟨D,hown,hD⟩:=h
 have HD:=Lh hD
 have HM:=Lh ht
 clear hD ht
 go_enter Tryz.func111,Tryz.ntmps111
 go_wp2_with (first
  | (at_range;refine wpList_range_own _ rfl _ 143 rfl 3 64 key11 Tryz.underlying143 recElem B n D rfl hown ?_;intro w0 hrg0 hg0 hs0)
  | go_in)
 go_frame
 go_loopw [3] (fun v wr=>∃ (left:Lit→Bool) (cnt:Nat) (M:List Rc) (A':Option Addr) (c':Nat),wr.ranges Tryz.prog 3 recElem B w.heap.size n D left cnt∧Coll t left M∧v=.slice A' M.length c'∧OwnRecs wr (w.heap.size + 1) A' M.length c' M∧Below w.heap.size w wr∧w.heap.size + 1≤wr.heap.size) (fun _ wr=>wr.rangeLeft B w.heap.size)
 case atStart=>exact ⟨_,_,[],none,0,hrg0,Coll.start (mayTab_ne HM.out) HD.out,rfl,OwnRecs.nil _ _,(Below.refl _ _).grown hg0 (Nat.le_refl _) (fun j hj=>by cases hj),by omega⟩
 case round =>
  clear hown hrg0 hg0 hs0
  obtain ⟨left,cnt,M,A',c',hrg,hC,rfl,hown,hbw,hsz⟩:=hrel
  have hmt:=(mayTab_iff t).1 HM.out
  have hM3:M.length≤3:=three_of hC.2.1 fun r hr=>⟨(hmt.1 r (hC.1 r hr)).1.1,(hmt.1 r (hC.1 r hr)).1.2.1⟩
  have OW:=Lh hown
  have BW:=Lh hbw
  have CC:=Lh hC
  have HSZ:=Lh hsz
  clear hown hbw hC hmt hsz
  obtain ⟨m,hm⟩:∃ m,m=M.length:=⟨_,rfl⟩
  rw [← hm] at OW hM3 ⊢
  have HMM:=Lh hm
  clear hm
  go_wp2_with (first
   | (at_next;refine wpList_next_ranges _ rfl _ rfl 3 key11 recElem (Value.int .i64) recV (fun key kl hk=>by obtain ⟨x,hx,_⟩:=keyOf_int_inv Tryz.underlying3 hk;exact ⟨x,hx⟩) (fun v y hv=>by obtain ⟨r,hr,_⟩:=recElem_inv hv;exact ⟨r,hr⟩) B w.heap.size n D left cnt rfl hrg ?_ ?_)
   | go_in)
  ·intro hc0 hl0
   have SO:=Lh (fun wx (hx:OwnRecs wx (w.heap.size + 1) A' m c' M) (hz:w.heap.size + 1≤wx.heap.size)=>psortf_any A' m c' (w.heap.size + 1) M wx hx hz hM3)
   unfold SortOut at SO
   have IT:=Lh (iso_tab HM.out CC.out.2.1 (CC.out.done hl0))
   clear hrg hl0 hc0
   go_wp2_with fail
   refine (SO.out _ OW.out HSZ.out).mono ?_
   rintro e w2 ⟨rfl,h2,h3⟩
   have H2:=Lh h2
   have B2:=Lh (BW.out.trans (h3.mono (Nat.le_succ _)))
   clear h2 h3
   go_wp2
   go_ret
   have it:=IT.out
   have o2:=H2.out
   rw [← HMM.out] at it
   rw [it] at o2
   have hl:t.length=m:=by rw [← it,isoR_length];exact HMM.out.symm
   rw [hl]
   exact ⟨A',c',rfl,o2.lower (Nat.le_succ _),B2.out⟩
  ·intro x c kl yd yp w2 cnt2 hkey hlk hv hat hrg2 hlt hg2 hs2 hen
   obtain ⟨x',ex,rfl,_⟩:=keyOf_int_inv Tryz.underlying3 hkey
   obtain rfl:x=x':=by injection ex
   obtain ⟨c',ec,hcR,ey⟩:=recElem_inv hv
   have ecc:=recV_inj ec
   subst ecc
   have hy:yd=recD c:=(Prod.mk.inj ey).1
   have hh:=has_true_of_atKey hat
   rw [HD.out.1 x] at hh
   obtain ⟨s,hs⟩:=Option.isSome_iff_exists.1 hh
   have hsc:s=c:=recD_inj (by rw [← HD.out.2 x s hs (recD c),hat,hy])
   subst hsc
   obtain ⟨hmem,hpx⟩:=fR_some hs
   subst hpx
   have HRG:=Lh hrg
   have LT:=Lh hlt
   have HC2:=Lh (CC.out.step (mayTab_ne HM.out) hmem hlk)
   have hsz2:w.heap.size + 1≤w2.heap.size:=by rw [hs2];exact HSZ.out
   have OW2:=OW.out.under hg2 (fun g hg=>by injection hg with hg;omega)
   have BW2:=BW.out.grown hg2 (Nat.le_trans (Nat.le_succ _) HSZ.out) (fun k hk=>by injection hk with hk;omega)
   obtain ⟨xb,hbb⟩:=rec_box w2 s
   have hc0:=xb.rec
   have OW3:=Lh (OW2.below hbb)
   have BW3:=Lh (BW2.trans (hbb.mono BW2.size))
   have HRG3:=Lh (hrg2.alloc (.cells #[.int .i64 s.p,.int .u32 s.b,.int .u32 s.e,.int .i64 s.l,.int .u8 s.h,.int .i64 s.f,.bool s.q,.bool s.a] 64))
   have SZ3:=Lh (Nat.le_trans hsz2 hbb.size)
   have HR:=Lh hcR
   obtain ⟨c0,c1,c2,c3,c4,c5,c6,c7⟩:=hc0
   clear hkey hlk hv hat hrg2 hlt hg2 hs2 ey ec hy hh hs hmem hrg OW2 BW2 hbb xb hsz2 hcR ex OW BW CC
   go_wp2_with (first
    | (at_builtin;refine wpList_recs (w2.alloc (.cells #[.int .i64 s.p,.int .u32 s.b,.int .u32 s.e,.int .i64 s.l,.int .u8 s.h,.int .i64 s.f,.bool s.q,.bool s.a] 64)) (w2.alloc (.cells #[.int .i64 s.p,.int .u32 s.b,.int .u32 s.e,.int .i64 s.l,.int .u8 s.h,.int .i64 s.f,.bool s.q,.bool s.a] 64)) rfl (.tmp 12) (.tmp 14) rfl (w.heap.size + 1) A' m c' M rfl OW3.out s HR.out (by rw [World.size_alloc];rfl) (by omega) (Below.refl _ _) SZ3.out ?_;intro A2 c2' w5 hO5 hB5;have O5:=Lh hO5;have B5:=Lh hB5;clear hO5 hB5)
    | go_in)
   go_roundw
   case rel =>
    have hml:(M ++ [s]).length=m + 1:=by rw [List.length_append,← HMM.out];rfl
    refine ⟨_,cnt2,M ++ [s],A2,c2',ranges_below HRG3.out B5.out (by omega) (Nat.lt_succ_self _),HC2.out,by rw [hml],by rw [hml];exact O5.out,BW3.out.trans (B5.out.mono (Nat.le_succ _)),Nat.le_trans SZ3.out B5.out.size⟩
   case measure=>rw [(ranges_below HRG3.out B5.out (by omega) (Nat.lt_succ_self _)).left_eq,HRG.out.left_eq];exact LT.out
end Go.Proofs.YtifgcfepbenpjaaGreat
namespace Go.Proofs.YtifgcfepbenpjaaGreat
open Go.RowKit Go.Maps
theorem wf_pair {p:Int} (h0:0≤p) (h:p < 3):(Lit.int .i64 p).wf=true:=by
 have:p=0∨p=1∨p=2:=by omega
 rcases this with rfl | rfl | rfl <;> decide
theorem TabAt.mono {w:World} {B n n':Nat} {t:List Rc} (h:TabAt w B n t) (hn:n≤n'):TabAt w B n' t:=by
 obtain ⟨D,h,k⟩:=h
 exact ⟨D,h.mono hn,k⟩
theorem go_pair {b:Txt} (hb:∀ z ∈ b,isByte z) (h:isGo b):0≤b.getD 1 0∧b.getD 1 0 < 3:=⟨(byte_getD11 hb 1).1,h.2.2⟩
theorem pput_any (B n:Nat) (t:List Rc) (A:Option Addr) (nb cb:Nat) (b:Txt) (w:World) (ht:mayTab t) (h:TabAt w B n t) (hn:n≤100000) (hb:Arg w .u8 A nb cb b) (hby:∀ z ∈ b,isByte z) (hl:nb≤1000) :
  Calls Tryz.prog 110 #[.map (some B),.slice A nb cb] w fun e w'=>e=.returned (.bool (putN t b).isSome)∧TabAt w' B (n + 1) ((putN t b).getD t)∧w.grownBy w' (some B):=by
 have RI:=Lh (precin_any A nb cb b w hb hby hl)
 have GI:=Lh (fun wx (hx:Arg wx .u8 A nb cb b)=>pgonein_any A nb cb b wx hx hby hl)
 unfold OfOut at RI
 unfold GoOut at GI
 have HB:=Lh hb
 have HT:=Lh h
 have BY:=Lh hby
 have MT:=Lh ht
 have hnm:n < maxLen:=by unfold maxLen;omega
 have RAW:=Lh (fun (k:isN b)=>raw_is k.1 hby)
 clear hb hby ht h hl hn
 go_enter Tryz.func110,Tryz.ntmps110
 go_wp2_with fail
 refine RI.out.mono ?_
 rintro e w1 ⟨⟨hN,rfl⟩ | ⟨hN,s,rfl⟩,hb1⟩
 ·have HX:=Lh (show putN t b=some (withR t (rawR b)) from (if_neg (not_go hN)).trans (if_pos hN))
  have HRI:=Lh (RAW.out hN)
  have MR:=Lh hN.2.2.2
  have HF:=Lh (with_find MT.out hN.2.2.2)
  obtain ⟨r,hr⟩:∃ r,r=rawR b:=⟨_,rfl⟩
  rw [← hr] at HX HRI MR HF ⊢
  obtain ⟨x,hbx⟩:=rec_box w1 r
  obtain ⟨c0,c1,c2,c3,c4,c5,c6,c7⟩:=x.rec
  have B2:=Lh (hb1.trans (hbx.mono hb1.size))
  have T2:=Lh ((HT.out.below hb1).below hbx)
  clear hr x hbx hN RAW hb1 RI GI HB BY
  go_wp2_with (first
   | (at_mapUpdate;refine wpList_tab_put _ rfl _ _ _ rfl B n t (withR t r) rfl T2.out hnm r HRI.out (wf_pair MR.out.1.1 MR.out.1.2.1) rfl rfl HF.out ?_;intro w5 hT5 hG5;have T5:=Lh hT5;have G5:=Lh hG5;clear hT5 hG5)
   | go_in)
  go_ret
  rw [HX.out]
  exact ⟨rfl,T5.out,grownBy_trans (below_grown11 B2.out _) G5.out⟩
 ·obtain ⟨x,hbx⟩:=rec_box w1 s
  have B2:=Lh (hb1.trans (hbx.mono hb1.size))
  have T2:=Lh ((HT.out.below hb1).below hbx)
  have HB2:=Lh ((HB.out.below hb1).below hbx)
  have HN:=Lh hN
  clear x hbx hN RAW hb1 RI
  go_wp2_with fail
  refine (GI.out _ HB2.out).mono ?_
  rintro e w3 ⟨⟨hg,rfl⟩ | ⟨hg,rfl⟩,hb3⟩
  ·have HX:=Lh (show putN t b=some (outR t (b.getD 1 0)) from if_pos hg)
   have HP:=Lh (go_pair BY.out hg)
   have B3:=Lh (B2.out.trans (hb3.mono B2.out.size))
   have T3:=Lh (T2.out.below hb3)
   obtain ⟨q,hq⟩:∃ q,q=b.getD 1 0:=⟨_,rfl⟩
   rw [← hq] at HX HP ⊢
   clear hq hg hb3 GI HB2
   go_wp2_with (first
    | (at_delete;refine wpList_tab_del _ rfl _ _ rfl B n t (outR t q) rfl T3.out q (wf_pair HP.out.1 HP.out.2) rfl (out_find t q) ?_;intro w5 hT5 hG5;have T5:=Lh hT5;have G5:=Lh hG5;clear hT5 hG5)
    | go_in)
   go_ret
   rw [HX.out]
   exact ⟨rfl,T5.out.mono (Nat.le_succ _),grownBy_trans (below_grown11 B3.out _) G5.out⟩
  ·have HX:=Lh (show putN t b=none from (if_neg hg).trans (if_neg HN.out))
   have B3:=Lh (B2.out.trans (hb3.mono B2.out.size))
   have T3:=Lh (T2.out.below hb3)
   clear hg hb3 GI HB2
   go_wp2
   go_ret
   rw [HX.out]
   exact ⟨rfl,T3.out.mono (Nat.le_succ _),below_grown11 B3.out _⟩
theorem tabTo_step (t:List Rc) (l:List Txt) {k:Nat} (hk:k < l.length) {x:List Rc} (h:tabTo t (l.take k)=some x):tabTo t (l.take (k + 1))=putR x (l.getD k []):=by
 rw [List.take_succ_eq_append_getElem hk,tabTo_app,h]
 have e:l.getD k []=l[k]:=by simp [List.getD_eq_getElem?_getD,hk]
 rw [e]
 show (putR x l[k]).bind (fun y=>tabTo y [])=_
 cases putR x l[k] <;> rfl
theorem tabTo_none (t:List Rc) (l:List Txt) (k:Nat) (h:tabTo t (l.take k)=none):tabTo t l=none:=by
 rw [← List.take_append_drop k l,tabTo_app,h]
 rfl
def WithOut (w:World) (B:Nat) (x:Option (List Rc)) (e:Ending) (w':World):Prop:=∃ A' c',e=.returned (.tuple #[.slice A' (ansL x).length c',.int .i64 (ansE x)])∧OwnRecs w' w.heap.size A' (ansL x).length c' (ansL x)∧w.grownBy w' (some B)
theorem pwith_any (B n:Nat) (t:List Rc) (A:Option Addr) (m c:Nat) (l:List Txt) (w:World) (ht:mayTab t) (h:TabAt w B n t) (hn:n≤1000) (hl:Texts w A m c l) (hm:m≤1000) (hs:ShortT l m) :
  Calls Tryz.prog 68 #[.map (some B),.slice A m c] w (WithOut w B (tabTo t l)):=by
 have hlen:=hl.len
 have HL:=Lh hl
 have HT:=Lh h
 have SH:=Lh hs
 have ST:=Lh (fun k (hk:k < m) x=>tabTo_step t l (k:=k) (by rw [hlen];exact hk) (x:=x))
 have NO:=Lh (tabTo_none t l)
 have ALL:=Lh (show tabTo t (l.take m)=tabTo t l by rw [← hlen,List.take_length])
 have MAY:=Lh (fun k x (h:tabTo t (l.take k)=some x)=>tabTo_may ht h)
 have T0:=Lh (show tabTo t (l.take 0)=some t from rfl)
 clear hl hlen ht h hs
 unfold WithOut
 obtain ⟨R,hR⟩:∃ R,R=tabTo t l:=⟨_,rfl⟩
 rw [← hR] at NO ALL ⊢
 clear hR
 go_enter Tryz.func68,Tryz.ntmps68
 go_wp2
 go_loopw [10] (fun i wr=>∃ (k:Nat) (x:List Rc),k≤m∧i=.int .i64 k∧tabTo t (l.take k)=some x∧TabAt wr B (n + k) x∧w.grownBy wr (some B)) (fun i _=>m - (intOf i).toNat)
 case atStart=>exact ⟨0,t,Nat.zero_le _,rfl,T0.out,HT.out,grownBy_refl _ _⟩
 case round =>
  obtain ⟨k,x,hk,rfl,hx,hT,hg⟩:=hrel
  by_cases hkn:k < m
  ·have hTX:=Texts.turned HT.out hg HL.out
   obtain ⟨b,o,Ai,ni,ci,rfl,hlt,hc,ha⟩:=hTX.at_ k hkn
   have hby:=HL.out.byte_at k
   have hst:=ST.out k hkn x hx
   have hmx:=MAY.out k x hx
   rw [show putR x (l.getD k [])=putN x (l.getD k []) from if_pos hmx] at hst
   have hsh:=SH.out k hkn
   rw [ha.len] at hsh
   have PU:=pput_any B (n + k) x Ai ni ci (l.getD k []) wr hmx hT (by omega) ha hby (by omega)
   have G:=Lh hg
   have HC:=Lh hc
   rcases hy:putN x (l.getD k []) with _ | z
   ·rw [hy] at PU hst
    have PU:=Lh PU
    have HNO:=Lh (NO.out _ hst)
    clear hy hx hT hg ha hby hst hmx hsh ST NO ALL MAY HL HT SH T0 hTX
    go_wp2_with fail
    refine PU.out.mono ?_
    rintro e w2 ⟨rfl,_,hg2⟩
    have G2:=Lh (grownBy_trans G.out hg2)
    clear hg2 hc HC
    go_wp2
    go_ret2
    rw [HNO.out]
    exact ⟨none,0,rfl,OwnRecs.nil _ _,G2.out⟩
   ·rw [hy] at PU hst
    have PU:=Lh PU
    have HST:=Lh hst
    clear hy hx hT hg ha hby hst hmx hsh ST NO ALL MAY HL HT SH T0 hTX
    go_wp2_with fail
    refine PU.out.mono ?_
    rintro e w2 ⟨rfl,hT2,hg2⟩
    have G2:=Lh (grownBy_trans G.out hg2)
    have T2:=Lh (show TabAt w2 B (n + (k + 1)) z from hT2)
    clear hg2 hT2 hc HC
    go_wp2
    go_roundw
    case rel=>exact ⟨k + 1,z,by omega,by go_num,HST.out,T2.out,G2.out⟩
    case measure=>simp [intOf];omega
  ·obtain rfl:k=m:=by omega
   have hmx:=MAY.out k x hx
   rw [ALL.out] at hx
   have SO:=Lh (psorted_any B (n + k) x wr hmx hT)
   have HX:=Lh hx
   have G:=Lh hg
   clear hx hg hT hmx
   go_wp2_with fail
   refine SO.out.mono ?_
   rintro e w2 ⟨A2,c2,rfl,hO,hb⟩
   have O:=Lh (hO.lower G.out.size)
   have G2:=Lh (grownBy_trans G.out (below_grown11 hb _))
   clear hO hb
   go_wp2
   go_ret2
   rw [HX.out]
   exact ⟨A2,c2,rfl,O.out,G2.out⟩
end Go.Proofs.YtifgcfepbenpjaaGreat
namespace Go.Proofs.YtifgcfepbenpjaaGreat
open Go.RowKit Go.Maps
theorem texts_lit1 {w:World} {A:Option Addr} {k c:Nat} {z:Txt} (h:Arg w .u8 A k c z) (hz:∀ y ∈ z,isByte y):Texts (w.alloc (.cells #[.slice A k c] 42)) (some ⟨w.heap.size,0,none⟩) 1 1 [z] :=
 ⟨rfl,Nat.le_refl _,by decide,by simpa using hz,fun i hi=>by
  obtain rfl:i=0:=by omega
  have y:=Blk.new w 42 [.slice A k c]
  exact ⟨_,0,A,k,c,rfl,y.lt,(y.cell 0).trans rfl,h.below ((Below.refl _ _).alloc (Nat.le_refl _) _)⟩⟩
theorem take_getD {t:List Rc} {k i:Nat} (hi:i < k):(t.take k).getD i zR=t.getD i zR:=by
 rw [gtD,List.getElem?_take_of_lt hi,gtD]
theorem mayr_more {t:List Rc} {k:Nat} (hk:k < t.length) (h:mayTab (t.take k)) (hr:mayR (t.getD k zR)) (hp:0 < k→(t.getD (k - 1) zR).p < (t.getD k zR).p):mayTab (t.take (k + 1)):=by
 rw [mayTab_idx] at h ⊢
 intro y hy
 rw [List.length_take] at hy
 rcases Nat.lt_or_ge y k with hyk | hyk
 ·have h1:=h y (by rw [List.length_take];omega)
  rw [take_getD hyk] at h1
  rw [take_getD (by omega)]
  refine ⟨h1.1,fun h0=>?_⟩
  have h2:=h1.2 h0
  rw [take_getD (by omega)] at h2
  rw [take_getD (by omega)]
  exact h2
 ·obtain rfl:y=k:=by omega
  rw [take_getD (by omega)]
  refine ⟨hr,fun h0=>?_⟩
  rw [take_getD (by omega)]
  exact hp h0
theorem take_more {t:List Rc} {k:Nat} (hk:k < t.length):t.take (k + 1)=t.take k ++ [t.getD k zR]:=by
 rw [List.take_succ_eq_append_getElem hk]
 simp [List.getD_eq_getElem?_getD,hk]
theorem find_more {M:List Rc} {r:Rc} (h:mayTab (M ++ [r])) (p:Int):fR (M ++ [r]) p=if p=r.p then some r else fR M p:=by
 have h':=(mayTab_iff _).1 h
 have hM:mayTab M:=(mayTab_iff _).2 ⟨fun x hx=>h'.1 x (List.mem_append_left _ hx),(List.pairwise_append.1 h'.2).1⟩
 rw [← with_snoc h]
 exact with_find hM (h'.1 r (List.mem_append_right _ (List.mem_singleton.2 rfl))) p
def OfTab (w:World) (n:Nat) (t:List Rc) (e:Ending) (w':World):Prop:=((mayTab t∧∃ B,e=.returned (.tuple #[.map (some B),.int .i64 0])∧TabAt w' B n t∧w.heap.size≤B)∨(¬ mayTab t∧e=.returned (.tuple #[.map none,.int .i64 110])))∧Below w.heap.size w w'
theorem ptableof_any (A:Option Addr) (n c:Nat) (t:List Rc) (w:World) (ht:Recs w A n c t) (hn:n≤1000) :
  Calls Tryz.prog 67 #[.slice A n c] w (OfTab w n t):=by
 have hmm:=@run_makeMap Tryz.prog
 have hlen:=ht.len
 have HT:=Lh ht
 have IDX:=Lh (fun (h:mayTab t) k (hk:k < n)=>(mayTab_idx t).1 h k (by rw [hlen];exact hk))
 have HLN:=Lh hlen
 have ALL:=Lh (show t.take n=t by rw [← hlen,List.take_length])
 clear ht hlen
 unfold OfTab
 go_enter Tryz.func67,Tryz.ntmps67
 go_wp2
 go_loopw [11] (fun i wr=>∃ k:Nat,k≤n∧i=.int .i64 k∧mayTab (t.take k)∧TabAt wr w.heap.size k (t.take k)∧Below w.heap.size w wr) (fun i _=>n - (intOf i).toNat)
 case atStart=>exact ⟨0,Nat.zero_le _,rfl,trivial,TabAt.made w,(Below.refl _ _).alloc (Nat.le_refl _) _⟩
 case round =>
  clear hmm
  obtain ⟨k,hk,rfl,hmy,hT,hbw⟩:=hrel
  have hmax:k < maxLen:=by unfold maxLen;omega
  have TT:=Lh hT
  have BW:=Lh hbw
  have MY:=Lh hmy
  clear hT hbw hmy
  by_cases hkn:k < n
  ·have hki:(k:Int) < (n:Int):=by omega
   have HTR:=HT.out.below BW.out
   obtain ⟨b,o,rfl,hlt,d0,d1,d2,d3,d4,d5,d6,d7⟩:=HTR.row hkn
   have his:=HTR.is_at hkn
   have TM:=Lh (take_more (t:=t) (k:=k) (by rw [HLN.out];exact hkn))
   have MM:=Lh (mayr_more (t:=t) (k:=k) (by rw [HLN.out];exact hkn) MY.out)
   have IX:=Lh (fun h=>IDX.out h k hkn)
   obtain ⟨r,hr⟩:∃ r,r=t.getD k zR:=⟨_,rfl⟩
   rw [← hr] at d0 d1 d2 d3 d4 d5 d6 d7 his TM MM IX
   obtain ⟨x,hbx⟩:=rec_box wr r
   have x:=Lh x
   have BX:=Lh hbx
   have CK:=Lh (fun wx=>pcheck11_any r wx his)
   have HIS:=Lh his
   clear his hr
   obtain ⟨w1,hw1⟩:∃ y,y=wr.alloc (.cells #[.int .i64 r.p,.int .u32 r.b,.int .u32 r.e,.int .i64 r.l,.int .u8 r.h,.int .i64 r.f,.bool r.q,.bool r.a] 64):=⟨_,rfl⟩
   have hx:=x.out
   rw [← hw1] at hx hbx
   have X1:=Lh hx
   have T1:=Lh (TT.out.below hbx)
   have B1:=Lh (BW.out.trans (hbx.mono BW.out.size))
   have hltx:wr.heap.size < w1.heap.size:=hx.lt
   have R1:=HTR.below hbx
   obtain ⟨c0,c1,c2,c3,c4,c5,c6,c7⟩:=hx.rec
   clear x BX hx hbx HTR
   by_cases hk0:k=0
   ·have hd:decide (0 < k)=false:=decide_eq_false (by omega)
    have HK0:=Lh hk0
    clear hk0
    go_upto_region 5 with fail
    rw [← hw1]
    clear hw1 d0 d1 d2 d3 d4 d5 d6 d7
    go_quiet (fail)
    have hbq:Below w1.heap.size w1 (w1.drewN nq):=below_drewN (Below.refl _ _) nq
    obtain ⟨w2,hw2⟩:∃ y,y=w1.drewN nq:=⟨_,rfl⟩
    rw [← hw2] at hbq ⊢
    have X2:=Lh (X1.out.below hbq hltx)
    have T2:=Lh (T1.out.below hbq)
    have B2:=Lh (B1.out.trans (hbq.mono B1.out.size))
    clear hw2 hbq c0 c1 c2 c3 c4 c5 c6 c7 X1 T1 B1 R1
    have hx2:=X2.out
    obtain ⟨c0,c1,c2,c3,c4,c5,c6,c7⟩:=hx2.rec
    clear hx2
    by_cases hm:mayR r
    ·have CK:=Lh (show ∀ wx,Calls Tryz.prog 73 #[recV r] wx fun e w'=>e=.returned (.int .i64 0)∧Below wx.heap.size wx w' from by have h:=CK.out;rw [show rcE r=0 from if_pos hm] at h;exact h)
     have MK:=Lh (MM.out hm (fun h=>absurd h (by have:=HK0.out;omega)))
     have HMR:=Lh hm
     clear hm
     go_wp2_with fail
     refine (CK.out _).mono ?_
     rintro e w3 ⟨rfl,hb3⟩
     have X3:=X2.out.below hb3 X2.out.lt
     have T3:=Lh (T2.out.below hb3)
     have B3:=Lh (B2.out.trans (hb3.mono B2.out.size))
     clear c0 c1 c2 c3 c4 c5 c6 c7 hb3
     obtain ⟨c0,c1,c2,c3,c4,c5,c6,c7⟩:=X3.rec
     clear X3
     have HF:=Lh (show ∀ p,fR (t.take (k + 1)) p=if p=r.p then some r else fR (t.take k) p from fun p=>by have h:=MK.out;rw [TM.out] at h ⊢;exact find_more h p)
     go_wp2_with (first
      | (at_mapUpdate;refine wpList_tab_put _ rfl _ _ _ rfl w.heap.size k (t.take k) (t.take (k + 1)) rfl T3.out hmax r HIS.out (wf_pair HMR.out.1.1 HMR.out.1.2.1) rfl rfl HF.out ?_;intro w5 hT5 hG5;have T5:=Lh hT5;have G5:=Lh hG5;clear hT5 hG5)
      | go_in)
     go_roundw
     case rel=>exact ⟨k + 1,by omega,by go_num,MK.out,T5.out,B3.out.grown G5.out B3.out.size (fun j hj=>by injection hj with hj;omega)⟩
     case measure=>simp [intOf];omega
    ·have CK:=Lh (show ∀ wx,Calls Tryz.prog 73 #[recV r] wx fun e w'=>e=.returned (.int .i64 110)∧Below wx.heap.size wx w' from by have h:=CK.out;rw [show rcE r=110 from if_neg hm] at h;exact h)
     have NM:=Lh (show ¬ mayTab t from fun h=>hm (IX.out h).1)
     clear hm
     go_wp2_with fail
     refine (CK.out _).mono ?_
     rintro e w3 ⟨rfl,hb3⟩
     have B3:=Lh (B2.out.trans (hb3.mono B2.out.size))
     clear c0 c1 c2 c3 c4 c5 c6 c7 hb3
     go_wp2
     go_ret2
     exact ⟨.inr ⟨NM.out,rfl⟩,B3.out⟩
   ·obtain ⟨J,hJ⟩:∃ J,J=k - 1:=⟨_,rfl⟩
    have hd:decide (0 < k)=true:=decide_eq_true (by omega)
    have hJn:(J:Int) < (n:Int):=by omega
    have hJk:IntKind.i64.wrap ((k:Int) - 1)=(J:Int):=by rw [IntKind.wrap_i64];omega
    obtain ⟨b',o',e',_,g0,_⟩:=R1.row (i:=J) (by omega)
    injection e' with e';injection e' with e1' e2' _;subst e1';subst e2'
    rw [← hJ] at MM IX
    obtain ⟨s,hs⟩:∃ s,s=t.getD J zR:=⟨_,rfl⟩
    rw [← hs] at MM IX g0
    have HK0:=Lh (show 0 < k by omega)
    clear hs hJ hk0
    by_cases hle:r.p≤s.p
    ·have NM:=Lh (show ¬ mayTab t from fun h=>by have:=(IX.out h).2 HK0.out;omega)
     have hle2:decide (r.p≤s.p)=true:=decide_eq_true hle
     clear hle
     go_upto_region 5 with fail
     rw [← hw1]
     clear hw1 d0 d1 d2 d3 d4 d5 d6 d7
     go_quiet (fail)
     have hbq:Below w1.heap.size w1 (w1.drewN nq):=below_drewN (Below.refl _ _) nq
     obtain ⟨w2,hw2⟩:∃ y,y=w1.drewN nq:=⟨_,rfl⟩
     rw [← hw2] at hbq ⊢
     have X2:=Lh (X1.out.below hbq hltx)
     have T2:=Lh (T1.out.below hbq)
     have B2:=Lh (B1.out.trans (hbq.mono B1.out.size))
     clear hw2 hbq c0 c1 c2 c3 c4 c5 c6 c7 X1 T1 B1 R1 g0
     go_wp2
     go_ret2
     exact ⟨.inr ⟨NM.out,rfl⟩,B2.out⟩
    ·have LT:=Lh (show s.p < r.p by omega)
     have hle2:decide (r.p≤s.p)=false:=decide_eq_false hle
     clear hle
     go_upto_region 5 with fail
     rw [← hw1]
     clear hw1 d0 d1 d2 d3 d4 d5 d6 d7
     go_quiet (fail)
     have hbq:Below w1.heap.size w1 (w1.drewN nq):=below_drewN (Below.refl _ _) nq
     obtain ⟨w2,hw2⟩:∃ y,y=w1.drewN nq:=⟨_,rfl⟩
     rw [← hw2] at hbq ⊢
     have X2:=Lh (X1.out.below hbq hltx)
     have T2:=Lh (T1.out.below hbq)
     have B2:=Lh (B1.out.trans (hbq.mono B1.out.size))
     clear hw2 hbq c0 c1 c2 c3 c4 c5 c6 c7 X1 T1 B1 R1 g0
     have hx2:=X2.out
     obtain ⟨c0,c1,c2,c3,c4,c5,c6,c7⟩:=hx2.rec
     clear hx2
     by_cases hm:mayR r
     ·have CK:=Lh (show ∀ wx,Calls Tryz.prog 73 #[recV r] wx fun e w'=>e=.returned (.int .i64 0)∧Below wx.heap.size wx w' from by have h:=CK.out;rw [show rcE r=0 from if_pos hm] at h;exact h)
      have MK:=Lh (MM.out hm (fun _=>LT.out))
      have HMR:=Lh hm
      clear hm
      go_wp2_with fail
      refine (CK.out _).mono ?_
      rintro e w3 ⟨rfl,hb3⟩
      have X3:=X2.out.below hb3 X2.out.lt
      have T3:=Lh (T2.out.below hb3)
      have B3:=Lh (B2.out.trans (hb3.mono B2.out.size))
      clear c0 c1 c2 c3 c4 c5 c6 c7 hb3
      obtain ⟨c0,c1,c2,c3,c4,c5,c6,c7⟩:=X3.rec
      clear X3
      have HF:=Lh (show ∀ p,fR (t.take (k + 1)) p=if p=r.p then some r else fR (t.take k) p from fun p=>by have h:=MK.out;rw [TM.out] at h ⊢;exact find_more h p)
      go_wp2_with (first
       | (at_mapUpdate;refine wpList_tab_put _ rfl _ _ _ rfl w.heap.size k (t.take k) (t.take (k + 1)) rfl T3.out hmax r HIS.out (wf_pair HMR.out.1.1 HMR.out.1.2.1) rfl rfl HF.out ?_;intro w5 hT5 hG5;have T5:=Lh hT5;have G5:=Lh hG5;clear hT5 hG5)
       | go_in)
      go_roundw
      case rel=>exact ⟨k + 1,by omega,by go_num,MK.out,T5.out,B3.out.grown G5.out B3.out.size (fun j hj=>by injection hj with hj;omega)⟩
      case measure=>simp [intOf];omega
     ·have CK:=Lh (show ∀ wx,Calls Tryz.prog 73 #[recV r] wx fun e w'=>e=.returned (.int .i64 110)∧Below wx.heap.size wx w' from by have h:=CK.out;rw [show rcE r=110 from if_neg hm] at h;exact h)
      have NM:=Lh (show ¬ mayTab t from fun h=>hm (IX.out h).1)
      clear hm
      go_wp2_with fail
      refine (CK.out _).mono ?_
      rintro e w3 ⟨rfl,hb3⟩
      have B3:=Lh (B2.out.trans (hb3.mono B2.out.size))
      clear c0 c1 c2 c3 c4 c5 c6 c7 hb3
      go_wp2
      go_ret2
      exact ⟨.inr ⟨NM.out,rfl⟩,B3.out⟩
  ·obtain rfl:k=n:=by omega
   rw [ALL.out] at MY TT
   go_wp2
   go_ret2
   exact ⟨.inl ⟨MY.out,_,rfl,TT.out,Nat.le_refl _⟩,BW.out⟩
end Go.Proofs.YtifgcfepbenpjaaGreat
namespace Go.Proofs.YtifgcfepbenpjaaGreat
open Go.RowKit Go.Maps
theorem tabTo_lit (t:List Rc) (b:Txt):tabTo t [b]=putR t b:=by
 show (putR t b).bind (fun x=>tabTo x [])=_
 cases putR t b <;> rfl
theorem pput11_any (A:Option Addr) (n c:Nat) (t:List Rc) (A':Option Addr) (n' c':Nat) (b:Txt) (w:World) (ht:Recs w A n c t) (hn:n≤1000) (hb:Arg w .u8 A' n' c' b) (hby:∀ z ∈ b,isByte z) (hn':n'≤100) :
  Calls Tryz.prog 35 #[.slice A n c,.slice A' n' c'] w (PutOut w (putR t b)):=by
 have T:=Lh (ptableof_any A n c t w ht hn)
 have HB:=Lh hb
 have BY:=Lh hby
 have hlen:=hb.len
 unfold OfTab at T
 unfold PutOut
 have WI:=Lh (fun (B:Nat) w1 (hm:mayTab t) (hT:TabAt w1 B n t) (hx:Arg w1 .u8 A' n' c' b)=>pwith_any B n t (some ⟨w1.heap.size,0,none⟩) 1 1 [b] (w1.alloc (.cells #[.slice A' n' c'] 42)) hm (hT.below ((Below.refl _ _).alloc (Nat.le_refl _) _)) hn (texts_lit1 hx hby) (by decide) (fun y hy=>by obtain rfl:y=0:=(by omega);show b.length≤100;omega))
 unfold WithOut at WI
 rw [tabTo_lit] at WI
 clear ht hb hby hlen
 go_enter Tryz.func35,Tryz.ntmps35
 go_wp2_with fail
 refine T.out.mono ?_
 rintro e w1 ⟨⟨hm,B,rfl,hT,hB⟩ | ⟨hm,rfl⟩,hb1⟩
 ·have B1:=Lh hb1
  have W:=Lh (WI.out B w1 hm hT (HB.out.below hb1))
  have HBB:=Lh hB
  clear hm hT hb1 hB WI
  go_wp2_with fail
  refine W.out.mono ?_
  rintro e w2 ⟨A2,c2,rfl,hO,hg⟩
  have hbl:Below w.heap.size w (w1.alloc (.cells #[.slice A' n' c'] 42)):=B1.out.alloc B1.out.size _
  have O:=Lh (hO.lower hbl.size)
  have B2:=Lh (hbl.grown hg hbl.size (fun k hk=>by injection hk with hk;have:=HBB.out;omega))
  clear hO hg hbl
  go_wp2
  go_ret2
  exact ⟨A2,c2,rfl,O.out,B2.out⟩
 ·have HX:=Lh (show putR t b=none from if_neg hm)
  have B1:=Lh hb1
  clear hm hb1 WI
  go_wp2
  go_ret2
  rw [HX.out]
  exact ⟨none,0,rfl,OwnRecs.nil _ _,B1.out⟩
theorem pnotes11_any (A:Option Addr) (n c:Nat) (t:List Rc) (w:World) (ht:Recs w A n c t) (hn:n≤1000) :
  Calls Tryz.prog 47 #[.slice A n c] w (NotesOut w (rnL t) (rnE t)):=by
 obtain ⟨i1,hi1,hy0,hy1,hy2⟩:=info_parts texts_info
 have hml:(1000:Nat)≤maxLen:=by decide
 have T:=Lh (ptableof_any A n c t w ht hn)
 have HT:=Lh ht
 have hlen:=ht.len
 unfold OfTab at T
 unfold NotesOut
 by_cases hm:mayTab t
 ·rw [show rnL t=t.map recT from if_pos hm,show rnE t=0 from if_pos hm,List.length_map,hlen]
  have MAY:=Lh (fun k (hk:k < n)=>((mayTab_idx t).1 hm k (by rw [hlen];exact hk)).1)
  have TF:=Lh (show (t.map recT).take n=t.map recT by rw [← hlen,← List.length_map (f:=recT),List.take_length])
  have TS:=Lh (fun k (hk:k < n)=>show (t.map recT).take (k + 1)=(t.map recT).take k ++ [recT (t.getD k zR)] by
   rw [List.take_succ_eq_append_getElem (by rw [List.length_map,hlen];exact hk)]
   simp [List.getD_eq_getElem?_getD,show k < t.length by rw [hlen];exact hk])
  obtain ⟨Z,hZ⟩:∃ Z,Z=t.map recT:=⟨_,rfl⟩
  rw [← hZ] at TF TS ⊢
  have HM:=Lh hm
  clear ht hm hlen hZ
  go_enter Tryz.func47,Tryz.ntmps47
  go_wp2_with fail
  refine T.out.mono ?_
  rintro e w1 ⟨⟨hm,B,rfl,hT,hB⟩ | ⟨hm,rfl⟩,hb1⟩
  ·have B1:=Lh hb1
   clear hm hT hB hb1 T
   go_wp2
   go_loopw [6,21] (fun v i wr=>∃ k:Nat,k≤n∧i=.int .i64 k∧(∃ A' c',v=.slice A' k c'∧OwnTexts wr w.heap.size A' k c' (Z.take k))∧Below w.heap.size w wr) (fun _ i _=>n - (intOf i).toNat)
   case atStart=>exact ⟨0,Nat.zero_le _,rfl,⟨none,0,rfl,OwnTexts.nil _ _⟩,B1.out⟩
   case round =>
    clear B1
    obtain ⟨k,hk,rfl,⟨A1,c1,rfl,hown⟩,hbel⟩:=hrel
    by_cases hkn:k < n
    ·have hki:(k:Int) < (n:Int):=by omega
     have HW:=HT.out.below hbel
     obtain ⟨b,o,rfl,hlt,d0,d1,d2,d3,d4,d5,d6,d7⟩:=HW.row hkn
     have his:=HW.is_at hkn
     have hmy:=MAY.out k hkn
     have hst:=TS.out k hkn
     obtain ⟨r,hr⟩:∃ r,r=t.getD k zR:=⟨_,rfl⟩
     rw [← hr] at d0 d1 d2 d3 d4 d5 d6 d7 his hmy hst
     obtain ⟨Q,hQ⟩:∃ Q,Q=Z.take k:=⟨_,rfl⟩
     rw [← hQ] at hown hst
     have HST:=Lh hst
     have NT:=Lh (show ∀ wx,Calls Tryz.prog 38 #[recV r] wx fun e w'=>∃ A c,e=.returned (.tuple #[.slice A 14 c,.int .i64 0])∧w'.ownsRow wx.heap.size 5 1 (.slice A 14 c) 14 (ints .u8 (recT r))∧Below wx.heap.size wx w' from fun wx=>by
      have h:=pnote11_any r wx his
      unfold RowOut at h
      rw [show ntB r=recT r from if_pos hmy,show rcE r=0 from if_pos hmy,recT_length] at h
      exact h)
     obtain ⟨x,hbx⟩:=rec_box wr r
     obtain ⟨c0,c1',c2',c3,c4,c5,c6,c7⟩:=x.rec
     have O:=Lh (hown.below hbx)
     have B:=Lh (hbel.trans (hbx.mono hbel.size))
     clear hr hQ hown hbel his hmy hst HW x hbx
     go_wp2_with fail
     refine (NT.out _).mono ?_
     rintro e w2 ⟨A2,c2,rfl,hown2,hb2⟩
     have O2:=Lh (owns_base hown2 B.out.size)
     have O1:=Lh (O.out.below hb2)
     have B2:=Lh (B.out.trans (hb2.mono B.out.size))
     clear hown2 hb2 d0 d1 d2 d3 d4 d5 d6 d7 c0 c1' c2' c3 c4 c5 c6 c7
     go_wp2_with (at_builtin;(refine wpList_text w w2 rfl (.tmp 30) (.tmp 32) _ rfl i1 _ Tryz.underlying103 hi1 hy0 hy1 hy2 rfl w.heap.size A1 k c1 Q rfl O1.out A2 14 c2 (recT r) (recT_byte r) O2.out rfl (by omega) (by omega) B2.out (Nat.le_refl _) ?_);intro A3 c3 w3 hown3 hbel3;have O3:=Lh hown3;have B3:=Lh hbel3;clear hown3 hbel3)
     go_roundw
     case rel=>exact ⟨k + 1,by omega,by go_num,⟨A3,c3,rfl,by rw [HST.out];exact O3.out⟩,B3.out⟩
     case measure=>simp [intOf];omega
    ·obtain rfl:k=n:=by omega
     rw [TF.out] at hown
     have O:=Lh hown
     have B:=Lh hbel
     clear hown hbel
     go_wp2
     go_ret2
     exact ⟨A1,c1,rfl,O.out,B.out⟩
  ·exact absurd HM.out hm
 ·rw [show rnL t=[] from if_neg hm,show rnE t=110 from if_neg hm]
  have HM:=Lh hm
  clear ht hm hlen
  go_enter Tryz.func47,Tryz.ntmps47
  go_wp2_with fail
  refine T.out.mono ?_
  rintro e w1 ⟨⟨hm,B,rfl,hT,hB⟩ | ⟨hm,rfl⟩,hb1⟩
  ·exact absurd hm HM.out
  ·have B1:=Lh hb1
   clear hm hb1
   go_wp2
   go_ret2
   exact ⟨none,0,rfl,OwnTexts.nil _ _,B1.out⟩
end Go.Proofs.YtifgcfepbenpjaaGreat
