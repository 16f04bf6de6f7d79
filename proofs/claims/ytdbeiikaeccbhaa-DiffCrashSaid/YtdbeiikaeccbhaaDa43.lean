/- Texts of the layers below, joined. -/
import Derived.Test.YtdbeiikaeccbhaaDa42
set_option maxRecDepth 100000
set_option maxHeartbeats 12800000
set_option linter.unusedVariables false
namespace Go.Proofs.Ytdbeiikaeccbhaa
open Go.RowKit
set_option maxRecDepth 100000
theorem dcrash_M0 (DD:DiffDoes) (P T A M W Q:Int) (D:Option Addr) (n c:Nat) (D':Option Addr) (c':Nat) (S:List Sec) (p:Int) (a3:Option Addr) (len3 cap3:Nat) (wk:List Int) (t b many:Int) (a7:Option Addr) (len7 cap7:Nat) (F:List Int) (w:World) (hq:Dsk w D n c D' 0 c' S []) (hw:Arg w .u8 a3 len3 cap3 wk) (hr:Arg w .u8 a7 len7 cap7 F) (hWB:∀ z ∈ wk,isByte z) (hg:greatD S [] 300=false) (hk:len3≤100) (hl:len7≤200) (hFB:∀ z ∈ F,isByte z) (h1:b.tmod 3=0) (hE:mkE P T A M W Q S [] p=0) (hF:dmE P T A M W Q p (mkL T A S [] p (pagC T).toNat) wk t=0) :
  Calls Try.prog 6 #[cfgV P T A M W Q,diskV D n c D' 0 c',.int .i64 p,.slice a3 len3 cap3,.int .i64 t,.int .u8 b,.int .i64 many,.slice a7 len7 cap7] w fun e w'=>e=.returned (.bool true)∧Below w.heap.size w w':=by
 obtain ⟨x,hbel⟩:=TBox.new P T A M W Q hq
 obtain ⟨w0,hw0⟩:∃ x:World,x=(w.alloc (.cells #[.int .i64 P,.int .i64 T,.int .i64 A,.int .i64 M,.int .i64 W,.int .i64 Q] 28)).alloc (.cells #[.slice D n c,.slice D' 0 c'] 56):=⟨_,rfl⟩
 rw [← hw0] at x hbel
 have X:=Lh x
 have B:=Lh hbel
 have RB:=Lh (hr.below hbel)
 have WB:=Lh (hw.below hbel)
 have AV:=Lh (fun wx:World=>alive_diff DD wx)
 obtain ⟨c0,c1,c2,c3,c4,c5,d0,d1⟩:=x.cells
 have GG:=Lh (fun wx hx=>great_any D n c D' 0 c' S [] 300 wx hx)
 rw [hg] at GG
 have SZ:=small_ofD (by decide) (by decide) hg
 have h100:¬ (100:Int) < (len3:Int):=by omega
 have h200:¬ (200:Int) < (len7:Int):=by omega
 have R0:=Lh (fun wx hx=>pgread_any P T A M W Q p D n c D' 0 c' S [] wx hx SZ)
 unfold RowOut at R0
 have hmt:=(mk_zero hE).1
 have hmay:=hmt.1
 have hm2:=pag_is hmay
 have hby:=(mk_set (p:=p) (C:=[]) hmay hq.secs.byte (by simp)).byte
 rw [hE,show mkB P T A M W Q S [] p=mkL T A S [] p (pagC T).toNat from if_pos hE] at R0
 have hlen:(mkL T A S [] p (pagC T).toNat).length=(pagC T).toNat:=mk_length
 obtain ⟨m,hm⟩:∃ m,m=(pagC T).toNat:=⟨_,rfl⟩
 rw [← hm] at R0 hby hlen
 rw [hlen] at R0
 have hm100:m≤100:=by omega
 obtain ⟨L0,hL0⟩:∃ L,L=mkL T A S [] p m:=⟨_,rfl⟩
 rw [← hL0] at R0 hby hlen
 have MK:=Lh (fun A0 k0 wx (hx:Arg wx .u8 A0 m k0 L0) (hy:Arg wx .u8 a3 len3 cap3 wk)=>DD.mark P T A M W Q p A0 m k0 L0 a3 len3 cap3 wk t wx hx hy hby hWB hm100 hk)
 have CK:=Lh (fun A0 k0 wx (hx:Arg wx .u8 A0 m k0 L0) (hy:Arg wx .u8 a3 len3 cap3 wk)=>DD.clean P T A M W Q p A0 m k0 L0 a3 len3 cap3 wk wx hx hy hby hWB hm100 hk)
 have FK:=Lh (fun A0 k0 wx (hx:Arg wx .u8 A0 m k0 L0)=>DD.fill P T A M W Q p A0 m k0 L0 wx hx hby hm100)
 unfold MkOut at MK CK FK
 have hsl:=hq.secs.len
 have hBS:=hq.secs.byte
 have hp:=(mk_zero hE).2
 have hF:dmE P T A M W Q p L0 wk t=0:=by rw [hL0,hm];exact hF
 obtain ⟨set,hset⟩:∃ x,x=dmS T L0 wk t:=⟨_,rfl⟩
 obtain ⟨wh,hwh⟩:∃ x,x=dmW L0 t:=⟨_,rfl⟩
 have hIs:IsSet T.toNat set:=by rw [hset];exact made_isSet _ _
 have hkeep:∀ u,u < T.toNat→hasT L0 u=true→hasT wk u=true→hasT set u=true:=by rw [hset];exact fun u hu h1 h2=>keep_mark u hu h1 h2
 obtain ⟨l,hl2⟩:∃ x,x=actW (whP T A p set wh m):=⟨_,rfl⟩
 obtain ⟨o,ho2⟩:∃ x,x=outW L0 set wh m:=⟨_,rfl⟩
 have k1:dmB P T A M W Q p L0 wk t=o:=by rw [ho2,hset,hwh];unfold dmB;rw [if_pos hF,hlen]
 have k2:actW (dmP P T A M W Q p L0 wk t)=l:=by rw [hl2,hset,hwh];unfold dmP;rw [if_pos hF,hlen]
 have hol:o.length=m:=by rw [ho2];exact outW_length _ _ _ _
 obtain ⟨hmid,S4,hd4,ht4,hk4⟩:=df_all (set:=set) (wh:=wh) hmt hp hm hL0 (fun j _=>set_sub hmay hIs j)
 obtain ⟨S5,C5,hd5,hmd5,_,hs5,hfl5⟩:=hmid many.toNat
 obtain ⟨ht3,hpg,hful⟩:=hfl5 F
 rw [← ho2] at hk4 hful
 rw [← hl2] at hd4 hd5 hful
 obtain ⟨nl,hnl⟩:∃ x,x=l.length:=⟨_,rfl⟩
 have hnk:nl≤1000:=by
  have:=act_len (whP T A p set wh m)
  have:=whP_len (T:=T) (A:=A) (p:=p) (set:=set) (wh:=wh) m
  rw [hnl,hl2];omega
 rw [k1,k2,hF,hol,← hnl] at MK
 obtain ⟨S3,hS3⟩:∃ x,x=crS S5 C5 F:=⟨_,rfl⟩
 rw [← hS3] at ht3 hpg hful
 have n3:S3.length=n:=by have a:=ht3.2.2;have b:=hmt.2.2;omega
 have n4:S4.length=n:=by have a:=ht4.2.2;have b:=hmt.2.2;omega
 have n5:S5.length=n:=hs5.trans hsl
 obtain ⟨nq,hc5⟩:∃ x,x=C5.length:=⟨_,rfl⟩
 have e3:mkE P T A M W Q S3 [] p=0:=by unfold mkE;rw [if_pos ht3,if_pos hp]
 have e4:mkE P T A M W Q S4 [] p=0:=by unfold mkE;rw [if_pos ht4,if_pos hp]
 have r3:mkB P T A M W Q S3 [] p=mkL T A S3 [] p m:=by rw [hm];exact if_pos e3
 have r4:mkB P T A M W Q S4 [] p=o:=by rw [← hk4,hm];exact if_pos e4
 have hFl:F.length≤200:=by rw [hr.len];exact hl
 have hck:chkD S5 C5=0:=if_pos hmd5
 have DN5:=Lh (fun A1 r1 base wx (hx:Dsk wx D n c D' 0 c' S []) (ha:OwnActs wx base A1 nl r1 l)=>(show Calls Try.prog 19 #[diskV D n c D' 0 c',.slice A1 nl r1,.int .i64 many] wx (fun e w'=>∃ B k B' k',e=.returned (.tuple #[diskV B n k B' nq k',.bool true])∧Dsk w' B n k B' nq k' S5 C5∧SmallD S5 C5∧Below wx.heap.size wx w') from by
  obtain ⟨L,o1,x1⟩:=ha.is
  have h:=done14_any D c D' c' S [] A1 nl r1 base L l many S5 C5 wx (by rw [hsl];exact hx) SZ o1 x1 hd5 ha.byte hnk
  rw [hsl] at h
  refine h.mono ?_
  rintro e w' ⟨B,k,B',k',rfl,hd,hs,hb⟩
  have hd2:=hd.dsk (by rw [hsl];exact hx.below hb)
  rw [n5,← hc5] at hd2
  exact ⟨B,k,B',k',by rw [n5,← hc5],hd2,hs,hb⟩))
 have DN4:=Lh (fun A1 r1 base wx (hx:Dsk wx D n c D' 0 c' S []) (ha:OwnActs wx base A1 nl r1 l)=>(show Calls Try.prog 19 #[diskV D n c D' 0 c',.slice A1 nl r1,.int .i64 (nl:Int)] wx (fun e w'=>∃ B k B' k',e=.returned (.tuple #[diskV B n k B' 0 k',.bool true])∧Dsk w' B n k B' 0 k' S4 []∧SmallD S4 []∧Below wx.heap.size wx w') from by
  obtain ⟨L,o1,x1⟩:=ha.is
  have h:=done14_any D c D' c' S [] A1 nl r1 base L l (nl:Int) S4 [] wx (by rw [hsl];exact hx) SZ o1 x1 (by rw [Int.toNat_natCast,hnl];exact hd4) ha.byte hnk
  rw [hsl] at h
  refine h.mono ?_
  rintro e w' ⟨B,k,B',k',rfl,hd,hs,hb⟩
  have hd2:=hd.dsk (by rw [hsl];exact hx.below hb)
  rw [n4] at hd2
  exact ⟨B,k,B',k',by rw [n4];rfl,hd2,hs,hb⟩))
 have CR:=Lh (fun A0 k0 A0' k0' wx (hsm:SmallD S5 C5) (hx:Dsk wx A0 n k0 A0' nq k0' S5 C5) (hr:Arg wx .u8 a7 len7 cap7 F)=>(dsk_does.crash A0 n k0 A0' nq k0' S5 C5 a7 len7 cap7 F wx hx hsm hr hFB hFl).mono fun e w' ho=>DiskOut.as ho (S':=S3) (C':=[]) (E':=0) (n:=n) (n':=0) hS3.symm rfl hck n3 rfl)
 have R3:=Lh (fun A0 k0 A0' k0' wx (hsm:SmallD S5 C5) (hx:Dsk wx A0 n k0 A0' 0 k0' S3 [])=>pgread_any P T A M W Q p A0 n k0 A0' 0 k0' S3 [] wx hx (by rw [hS3];exact cr_small hsm F))
 have R4:=Lh (fun A0 k0 A0' k0' wx (hsm:SmallD S4 []) (hx:Dsk wx A0 n k0 A0' 0 k0' S4 [])=>pgread_any P T A M W Q p A0 n k0 A0' 0 k0' S4 [] wx hx hsm)
 unfold RowOut at R3 R4
 rw [e3,r3] at R3
 rw [e4,r4,hol] at R4
 have l3:(mkL T A S3 [] p m).length=m:=mk_length
 rw [l3] at R3
 have HL:=Lh (fun (hS:∀ s ∈ S3,∀ z ∈ s.2,isByte z)=>dc_loop (S:=S) (S3:=S3) (set:=set) (wk:=wk) (wh:=wh) (p:=p) (m:=m) hmay hm hBS hS (by rw [← hL0];exact hpg) (by rw [← hL0];exact hkeep))
 have HBY:=Lh (fun (hS:∀ s ∈ S3,∀ z ∈ s.2,isByte z)=>(show ∀ z ∈ mkL T A S3 [] p m,isByte z by rw [hm];exact (mk_set (p:=p) (C:=[]) hmay hS (by simp)).byte))
 have ht0:0≤t∧t < T:=by
  unfold dmE at hF
  split at hF
  ·split at hF
   ·assumption
   ·exact absurd hF (by decide)
  ·rename_i hne;exact absurd hF hne
 have HZ:=Lh (fun (hS:∀ s ∈ S4,∀ z ∈ s.2,isByte z)=>(show trkE T o t=0∧hasV T o t=true∧∀ z ∈ o,isByte z from by
  have hc:=mk_chk (p:=p) (C:=[]) hmay hS (by simp)
  have hb:=(mk_set (p:=p) (C:=[]) hmay hS (by simp)).byte
  rw [← hm,hk4] at hc hb
  obtain ⟨j,rfl⟩:∃ j:Nat,t=(j:Int):=⟨t.toNat,by omega⟩
  obtain ⟨e,v⟩:=trk_in hc ht0.2
  refine ⟨e,?_,hb⟩
  rw [v,ho2,hset,hwh,hm]
  have:=mark_told (marks:=L0) (wk:=wk) hmay ht0
  rwa [Int.toNat_natCast] at this))
 obtain ⟨L3,hL3⟩:∃ x,x=mkL T A S3 [] p m:=⟨_,rfl⟩
 rw [← hL0,← hL3] at HL
 rw [← hL3] at R3 hful HBY
 have HFU:=Lh (show (nl:Int)≤many→L3=o from fun h=>hful (by rw [← hnl];omega))
 have HB0:=Lh hby
 have HBW:=Lh hWB
 have hT16:1≤T∧T≤16:=by unfold mayC at hmay;omega
 clear DD hg x hbel hq hr hw hl hk SZ hE hF hmt hmay hm2 hby hlen hm hm100 hL0 hsl hBS hp hset hwh hIs hkeep hl2 ho2 k1 k2 hol hmid hd4 ht4 hk4 hd5 hmd5 hs5 hfl5 ht3 hpg hful hnl hnk hS3 n3 n4 n5 hc5 e3 e4 r3 r4 hFl hck l3 hL3 hWB hFB ht0
 go_enter Try.func6,Try.ntmps6
 go_wp2_with fail
 rw [← hw0]
 clear hw0
 refine (AV.out _).mono ?_
 rintro e v1 ⟨rfl,hb⟩
 have X:=Lh (X.out.below hb)
 have B:=Lh (B.out.trans (hb.mono B.out.size))
 have RB:=Lh (RB.out.below hb)
 have WB:=Lh (WB.out.below hb)
 clear hb AV c0 c1 c2 c3 c4 c5 d0 d1
 obtain ⟨c0,c1,c2,c3,c4,c5,d0,d1⟩:=X.out.cells
 go_wp2_with fail
 refine (GG.out _ X.out.dsk.dsk).mono ?_
 rintro e v2 ⟨rfl,hb⟩
 have X:=Lh (X.out.below hb)
 have B:=Lh (B.out.trans (hb.mono B.out.size))
 have RB:=Lh (RB.out.below hb)
 have WB:=Lh (WB.out.below hb)
 clear hb GG c0 c1 c2 c3 c4 c5 d0 d1
 obtain ⟨c0,c1,c2,c3,c4,c5,d0,d1⟩:=X.out.cells
 go_wp2_with fail
 refine (R0.out _ X.out.dsk.dsk).mono ?_
 rintro e v3 ⟨A18,r18,rfl,hown,hb⟩
 have X:=Lh (X.out.below hb)
 have B:=Lh (B.out.trans (hb.mono B.out.size))
 have RB:=Lh (RB.out.below hb)
 have WB:=Lh (WB.out.below hb)
 have V18:=Lh (Arg.own hown)
 clear hb hown R0 c0 c1 c2 c3 c4 c5 d0 d1
 obtain ⟨c0,c1,c2,c3,c4,c5,d0,d1⟩:=X.out.cells
 go_wp2_with fail
 refine (MK.out _ _ _ V18.out WB.out).mono ?_
 rintro e v4 ⟨A20,r20,A21,r21,rfl,hown,hact,hb⟩
 have X:=Lh (X.out.below hb)
 have B:=Lh (B.out.trans (hb.mono B.out.size))
 have RB:=Lh (RB.out.below hb)
 have WB:=Lh (WB.out.below hb)
 have V18:=Lh (V18.out.below hb)
 have V20:=Lh (hown)
 have O21:=Lh (hact)
 clear hb hown hact MK c0 c1 c2 c3 c4 c5 d0 d1
 obtain ⟨c0,c1,c2,c3,c4,c5,d0,d1⟩:=X.out.cells
 go_wp2_with fail
 refine (DN5.out _ _ _ _ X.out.dsk.dsk O21.out).mono ?_
 rintro e v5 ⟨B5,k5,B5',k5',rfl,hown,hsm,hb⟩
 have SM5:=Lh hsm
 clear hsm
 have hY:=DBox.new hown
 have hbk:Below v5.heap.size v5 (v5.alloc (.cells #[.slice B5 n k5,.slice B5' nq k5'] 56)):=(Below.refl _ _).alloc (Nat.le_refl _) _
 have hb:=hb.trans (hbk.mono hb.size)
 have X:=Lh (X.out.below hb)
 have B:=Lh (B.out.trans (hb.mono B.out.size))
 have RB:=Lh (RB.out.below hb)
 have WB:=Lh (WB.out.below hb)
 have V18:=Lh (V18.out.below hb)
 have V20:=Lh (owns_below V20.out hb)
 have O21:=Lh (O21.out.below hb)
 clear hb hbk hown DN5 c0 c1 c2 c3 c4 c5 d0 d1
 go_upto_region 15 with fail
 obtain ⟨G5,hG⟩:∃ x,x=v5.heap.size:=⟨_,rfl⟩
 rw [← hG] at hY ⊢
 obtain ⟨v6,hW⟩:∃ x:World,x=v5.alloc (.cells #[.slice B5 n k5,.slice B5' nq k5'] 56):=⟨_,rfl⟩
 rw [← hW] at hY X B RB WB V18 V20 O21 ⊢
 clear hW hG
 have D5:=Lh hY
 clear hY
 obtain ⟨e0',e1'⟩:=D5.out.cells
 go_wp2_with fail
 refine (CR.out _ _ _ _ _ SM5.out D5.out.dsk RB.out).mono ?_
 rintro e v7 ⟨B6,k6,B6',k6',rfl,hown,hb⟩
 have hY:=DBox.new (Dsk.of_own hown)
 have hbk:Below v7.heap.size v7 (v7.alloc (.cells #[.slice B6 n k6,.slice B6' 0 k6'] 56)):=(Below.refl _ _).alloc (Nat.le_refl _) _
 have hb:=hb.trans (hbk.mono hb.size)
 have X:=Lh (X.out.below hb)
 have B:=Lh (B.out.trans (hb.mono B.out.size))
 have RB:=Lh (RB.out.below hb)
 have WB:=Lh (WB.out.below hb)
 have V18:=Lh (V18.out.below hb)
 have V20:=Lh (owns_below V20.out hb)
 have O21:=Lh (O21.out.below hb)
 have D5:=Lh (D5.out.below hb)
 clear hb hbk hown CR e0' e1'
 go_upto_region 16 with fail
 obtain ⟨G7,hG⟩:∃ x,x=v7.heap.size:=⟨_,rfl⟩
 rw [← hG] at hY ⊢
 obtain ⟨v8,hW⟩:∃ x:World,x=v7.alloc (.cells #[.slice B6 n k6,.slice B6' 0 k6'] 56):=⟨_,rfl⟩
 rw [← hW] at hY X B RB WB V18 V20 O21 D5 ⊢
 clear hW hG
 have D6:=Lh hY
 clear hY
 clear RB D5
 obtain ⟨c0,c1,c2,c3,c4,c5,d0,d1⟩:=X.out.cells
 obtain ⟨e0',e1'⟩:=D6.out.cells
 go_wp2_with fail
 refine (R3.out _ _ _ _ _ SM5.out D6.out.dsk).mono ?_
 rintro e v9 ⟨A27,r27,rfl,hown,hb⟩
 have X:=Lh (X.out.below hb)
 have B:=Lh (B.out.trans (hb.mono B.out.size))
 have WB:=Lh (WB.out.below hb)
 have V18:=Lh (V18.out.below hb)
 have V20:=Lh (owns_below V20.out hb)
 have O21:=Lh (O21.out.below hb)
 have D6:=Lh (D6.out.below hb)
 have V27:=Lh (Arg.own hown)
 clear hb hown R3 SM5 e0' e1' c0 c1 c2 c3 c4 c5 d0 d1
 obtain ⟨c0,c1,c2,c3,c4,c5,d0,d1⟩:=X.out.cells
 have BS3:=Lh D6.out.dsk.secs.byte
 clear D6
 go_wp2_with fail
 refine (DN4.out _ _ _ _ X.out.dsk.dsk O21.out).mono ?_
 rintro e v10 ⟨B7,k7,B7',k7',rfl,hown,hsm,hb⟩
 have SM4:=Lh hsm
 clear hsm
 have hY:=DBox.new hown
 have hbk:Below v10.heap.size v10 (v10.alloc (.cells #[.slice B7 n k7,.slice B7' 0 k7'] 56)):=(Below.refl _ _).alloc (Nat.le_refl _) _
 have hb:=hb.trans (hbk.mono hb.size)
 have X:=Lh (X.out.below hb)
 have B:=Lh (B.out.trans (hb.mono B.out.size))
 have WB:=Lh (WB.out.below hb)
 have V18:=Lh (V18.out.below hb)
 have V20:=Lh (owns_below V20.out hb)
 have O21:=Lh (O21.out.below hb)
 have V27:=Lh (V27.out.below hb)
 clear hb hbk hown DN4 c0 c1 c2 c3 c4 c5 d0 d1
 go_upto_region 18 with fail
 obtain ⟨G10,hG⟩:∃ x,x=v10.heap.size:=⟨_,rfl⟩
 rw [← hG] at hY ⊢
 obtain ⟨v11,hW⟩:∃ x:World,x=v10.alloc (.cells #[.slice B7 n k7,.slice B7' 0 k7'] 56):=⟨_,rfl⟩
 rw [← hW] at hY X B WB V18 V20 O21 V27 ⊢
 clear hW hG
 have D7:=Lh hY
 clear hY
 clear O21
 obtain ⟨c0,c1,c2,c3,c4,c5,d0,d1⟩:=X.out.cells
 obtain ⟨e0',e1'⟩:=D7.out.cells
 go_wp2_with fail
 refine (R4.out _ _ _ _ _ SM4.out D7.out.dsk).mono ?_
 rintro e v12 ⟨A31,r31,rfl,hown,hb⟩
 have X:=Lh (X.out.below hb)
 have B:=Lh (B.out.trans (hb.mono B.out.size))
 have WB:=Lh (WB.out.below hb)
 have V18:=Lh (V18.out.below hb)
 have V20:=Lh (owns_below V20.out hb)
 have V27:=Lh (V27.out.below hb)
 have D7:=Lh (D7.out.below hb)
 have V31:=Lh (Arg.own hown)
 clear hb hown R4 SM4 e0' e1' c0 c1 c2 c3 c4 c5 d0 d1
 have BS4:=Lh D7.out.dsk.secs.byte
 clear D7
 have V20:=Lh (Arg.own V20.out)
 have q20:=str_arg V20.out
 have q27:=str_arg V27.out
 have q31:=str_arg V31.out
 clear V31
 obtain ⟨so,hso⟩:∃ s,s=strOfNums o:=⟨_,rfl⟩
 have hse:(so.toList != so.toList)=false:=bne_self_eq_false _
 rw [← hso] at q20 q31
 have HSO:=Lh hso
 clear hso
 by_cases hge:(nl:Int)≤many
 ·rw [HFU.out hge,← HSO.out] at q27
  go_wp2
  clear q20 q27 q31
  go_loopw [33] (fun i wr=>∃ k:Nat,(k:Int)≤T∧i=.int .i64 k∧Below v12.heap.size v12 wr) (fun i _=>T.toNat - (intOf i).toNat)
  case atStart=>exact ⟨0,by omega,rfl,Below.refl _ _⟩
  case round =>
   obtain ⟨k,hk,rfl,hcur⟩:=hrel
   have X:=Lh (X.out.below hcur)
   have B:=Lh (B.out.trans (hcur.mono B.out.size))
   have WB:=Lh (WB.out.below hcur)
   have V18:=Lh (V18.out.below hcur)
   have V20:=Lh (V20.out.below hcur)
   have V27:=Lh (V27.out.below hcur)
   have hcur0:=Lh hcur
   clear hcur
   obtain ⟨c0,c1,c2,c3,c4,c5,d0,d1⟩:=X.out.cells
   by_cases hkm:(k:Int) < T
   ·have hwr2:IntKind.i64.wrap (k:Int)=k:=Lib.wrap_i64_small k (by omega)
    obtain ⟨f1,f2,f3⟩:=HL.out BS3.out k hkm
    obtain ⟨x0,hx0⟩:∃ x,x=hasV T L0 k:=⟨_,rfl⟩
    obtain ⟨xw,hxw⟩:∃ x,x=hasV T wk k:=⟨_,rfl⟩
    obtain ⟨x3,hx3⟩:∃ x,x=hasV T L3 k:=⟨_,rfl⟩
    obtain ⟨ew,hew⟩:∃ x,x=trkE T wk k:=⟨_,rfl⟩
    rw [← hx0,← hxw,← hx3] at f3
    have H0:=Lh (fun A1 k1 wx (hx:Arg wx .u8 A1 m k1 L0)=>has_b T A1 m k1 L0 k wx hx HB0.out hx0.symm f1)
    have HW:=Lh (fun wx (hx:Arg wx .u8 a3 len3 cap3 wk)=>has_b T a3 len3 cap3 wk k wx hx HBW.out hxw.symm hew.symm)
    have H3:=Lh (fun A1 k1 wx (hx:Arg wx .u8 A1 m k1 L3)=>has_b T A1 m k1 L3 k wx hx (HBY.out BS3.out) hx3.symm f2)
    clear hx0 hxw hx3 hew f1 f2
    go_wp2_with fail
    refine (H0.out _ _ _ V18.out).mono ?_
    rintro e v13 ⟨rfl,hb⟩
    have X:=Lh (X.out.below hb)
    have B:=Lh (B.out.trans (hb.mono B.out.size))
    have WB:=Lh (WB.out.below hb)
    have V18:=Lh (V18.out.below hb)
    have V20:=Lh (V20.out.below hb)
    have V27:=Lh (V27.out.below hb)
    have hcur0:=Lh (hcur0.out.trans (hb.mono hcur0.out.size))
    clear hb H0 c0 c1 c2 c3 c4 c5 d0 d1
    obtain ⟨c0,c1,c2,c3,c4,c5,d0,d1⟩:=X.out.cells
    go_wp2_with fail
    refine (HW.out _ WB.out).mono ?_
    rintro e v14 ⟨rfl,hb⟩
    have X:=Lh (X.out.below hb)
    have B:=Lh (B.out.trans (hb.mono B.out.size))
    have WB:=Lh (WB.out.below hb)
    have V18:=Lh (V18.out.below hb)
    have V20:=Lh (V20.out.below hb)
    have V27:=Lh (V27.out.below hb)
    have hcur0:=Lh (hcur0.out.trans (hb.mono hcur0.out.size))
    clear hb HW c0 c1 c2 c3 c4 c5 d0 d1
    obtain ⟨c0,c1,c2,c3,c4,c5,d0,d1⟩:=X.out.cells
    go_wp2_with fail
    refine (H3.out _ _ _ V27.out).mono ?_
    rintro e v15 ⟨rfl,hb⟩
    have X:=Lh (X.out.below hb)
    have B:=Lh (B.out.trans (hb.mono B.out.size))
    have WB:=Lh (WB.out.below hb)
    have V18:=Lh (V18.out.below hb)
    have V20:=Lh (V20.out.below hb)
    have V27:=Lh (V27.out.below hb)
    have hcur0:=Lh (hcur0.out.trans (hb.mono hcur0.out.size))
    clear hb H3 c0 c1 c2 c3 c4 c5 d0 d1
    obtain ⟨c0,c1,c2,c3,c4,c5,d0,d1⟩:=X.out.cells
    by_cases g1:ew=0
    ·subst g1
     cases x0 with
     | false =>
      go_wp2
      try go_quiet (fail)
      try go_wp2
      go_roundw
      case rel=>exact ⟨k + 1,by omega,by go_num,hcur0.out⟩
      case measure=>simp [intOf];omega
     | true =>
      cases xw with
      | false =>
       go_wp2
       try go_quiet (fail)
       try go_wp2
       go_roundw
       case rel=>exact ⟨k + 1,by omega,by go_num,hcur0.out⟩
       case measure=>simp [intOf];omega
      | true =>
       obtain rfl:x3=true:=f3 rfl rfl
       go_wp2
       try go_quiet (fail)
       try go_wp2
       go_roundw
       case rel=>exact ⟨k + 1,by omega,by go_num,hcur0.out⟩
       case measure=>simp [intOf];omega
    ·have n1:(ew == 0)=false:=beq_eq_false_iff_ne.2 g1
     have n2:(ew != 0)=true:=bne_iff_ne.2 g1
     clear g1 f3
     go_wp2
     try go_quiet (fail)
     try go_wp2
     go_roundw
     case rel=>exact ⟨k + 1,by omega,by go_num,hcur0.out⟩
     case measure=>simp [intOf];omega
   ·have hkT:(k:Int)=T:=by omega
    obtain ⟨z1,z2,z3⟩:=HZ.out BS4.out
    have HT:=Lh (fun A1 k1 wx (hx:Arg wx .u8 A1 m k1 o)=>has_b T A1 m k1 o t wx hx z3 z2 z1)
    clear z1 z2 z3
    have n1:¬ (k:Int) < T:=by omega
    go_wp2_with fail
    refine (HT.out _ _ _ V20.out).mono ?_
    rintro e v16 ⟨rfl,hb⟩
    have X:=Lh (X.out.below hb)
    have B:=Lh (B.out.trans (hb.mono B.out.size))
    have WB:=Lh (WB.out.below hb)
    have V18:=Lh (V18.out.below hb)
    have V20:=Lh (V20.out.below hb)
    have V27:=Lh (V27.out.below hb)
    clear hb HT c0 c1 c2 c3 c4 c5 d0 d1
    go_wp2
    go_ret
    exact ⟨rfl,B.out⟩
 ·have nge:¬ (nl:Int)≤many:=hge
  go_wp2
  clear q20 q27 q31
  go_loopw [33] (fun i wr=>∃ k:Nat,(k:Int)≤T∧i=.int .i64 k∧Below v12.heap.size v12 wr) (fun i _=>T.toNat - (intOf i).toNat)
  case atStart=>exact ⟨0,by omega,rfl,Below.refl _ _⟩
  case round =>
   obtain ⟨k,hk,rfl,hcur⟩:=hrel
   have X:=Lh (X.out.below hcur)
   have B:=Lh (B.out.trans (hcur.mono B.out.size))
   have WB:=Lh (WB.out.below hcur)
   have V18:=Lh (V18.out.below hcur)
   have V20:=Lh (V20.out.below hcur)
   have V27:=Lh (V27.out.below hcur)
   have hcur0:=Lh hcur
   clear hcur
   obtain ⟨c0,c1,c2,c3,c4,c5,d0,d1⟩:=X.out.cells
   by_cases hkm:(k:Int) < T
   ·have hwr2:IntKind.i64.wrap (k:Int)=k:=Lib.wrap_i64_small k (by omega)
    obtain ⟨f1,f2,f3⟩:=HL.out BS3.out k hkm
    obtain ⟨x0,hx0⟩:∃ x,x=hasV T L0 k:=⟨_,rfl⟩
    obtain ⟨xw,hxw⟩:∃ x,x=hasV T wk k:=⟨_,rfl⟩
    obtain ⟨x3,hx3⟩:∃ x,x=hasV T L3 k:=⟨_,rfl⟩
    obtain ⟨ew,hew⟩:∃ x,x=trkE T wk k:=⟨_,rfl⟩
    rw [← hx0,← hxw,← hx3] at f3
    have H0:=Lh (fun A1 k1 wx (hx:Arg wx .u8 A1 m k1 L0)=>has_b T A1 m k1 L0 k wx hx HB0.out hx0.symm f1)
    have HW:=Lh (fun wx (hx:Arg wx .u8 a3 len3 cap3 wk)=>has_b T a3 len3 cap3 wk k wx hx HBW.out hxw.symm hew.symm)
    have H3:=Lh (fun A1 k1 wx (hx:Arg wx .u8 A1 m k1 L3)=>has_b T A1 m k1 L3 k wx hx (HBY.out BS3.out) hx3.symm f2)
    clear hx0 hxw hx3 hew f1 f2
    go_wp2_with fail
    refine (H0.out _ _ _ V18.out).mono ?_
    rintro e v13 ⟨rfl,hb⟩
    have X:=Lh (X.out.below hb)
    have B:=Lh (B.out.trans (hb.mono B.out.size))
    have WB:=Lh (WB.out.below hb)
    have V18:=Lh (V18.out.below hb)
    have V20:=Lh (V20.out.below hb)
    have V27:=Lh (V27.out.below hb)
    have hcur0:=Lh (hcur0.out.trans (hb.mono hcur0.out.size))
    clear hb H0 c0 c1 c2 c3 c4 c5 d0 d1
    obtain ⟨c0,c1,c2,c3,c4,c5,d0,d1⟩:=X.out.cells
    go_wp2_with fail
    refine (HW.out _ WB.out).mono ?_
    rintro e v14 ⟨rfl,hb⟩
    have X:=Lh (X.out.below hb)
    have B:=Lh (B.out.trans (hb.mono B.out.size))
    have WB:=Lh (WB.out.below hb)
    have V18:=Lh (V18.out.below hb)
    have V20:=Lh (V20.out.below hb)
    have V27:=Lh (V27.out.below hb)
    have hcur0:=Lh (hcur0.out.trans (hb.mono hcur0.out.size))
    clear hb HW c0 c1 c2 c3 c4 c5 d0 d1
    obtain ⟨c0,c1,c2,c3,c4,c5,d0,d1⟩:=X.out.cells
    go_wp2_with fail
    refine (H3.out _ _ _ V27.out).mono ?_
    rintro e v15 ⟨rfl,hb⟩
    have X:=Lh (X.out.below hb)
    have B:=Lh (B.out.trans (hb.mono B.out.size))
    have WB:=Lh (WB.out.below hb)
    have V18:=Lh (V18.out.below hb)
    have V20:=Lh (V20.out.below hb)
    have V27:=Lh (V27.out.below hb)
    have hcur0:=Lh (hcur0.out.trans (hb.mono hcur0.out.size))
    clear hb H3 c0 c1 c2 c3 c4 c5 d0 d1
    obtain ⟨c0,c1,c2,c3,c4,c5,d0,d1⟩:=X.out.cells
    by_cases g1:ew=0
    ·subst g1
     cases x0 with
     | false =>
      go_wp2
      try go_quiet (fail)
      try go_wp2
      go_roundw
      case rel=>exact ⟨k + 1,by omega,by go_num,hcur0.out⟩
      case measure=>simp [intOf];omega
     | true =>
      cases xw with
      | false =>
       go_wp2
       try go_quiet (fail)
       try go_wp2
       go_roundw
       case rel=>exact ⟨k + 1,by omega,by go_num,hcur0.out⟩
       case measure=>simp [intOf];omega
      | true =>
       obtain rfl:x3=true:=f3 rfl rfl
       go_wp2
       try go_quiet (fail)
       try go_wp2
       go_roundw
       case rel=>exact ⟨k + 1,by omega,by go_num,hcur0.out⟩
       case measure=>simp [intOf];omega
    ·have n1:(ew == 0)=false:=beq_eq_false_iff_ne.2 g1
     have n2:(ew != 0)=true:=bne_iff_ne.2 g1
     clear g1 f3
     go_wp2
     try go_quiet (fail)
     try go_wp2
     go_roundw
     case rel=>exact ⟨k + 1,by omega,by go_num,hcur0.out⟩
     case measure=>simp [intOf];omega
   ·have hkT:(k:Int)=T:=by omega
    obtain ⟨z1,z2,z3⟩:=HZ.out BS4.out
    have HT:=Lh (fun A1 k1 wx (hx:Arg wx .u8 A1 m k1 o)=>has_b T A1 m k1 o t wx hx z3 z2 z1)
    clear z1 z2 z3
    have n1:¬ (k:Int) < T:=by omega
    go_wp2_with fail
    refine (HT.out _ _ _ V20.out).mono ?_
    rintro e v16 ⟨rfl,hb⟩
    have X:=Lh (X.out.below hb)
    have B:=Lh (B.out.trans (hb.mono B.out.size))
    have WB:=Lh (WB.out.below hb)
    have V18:=Lh (V18.out.below hb)
    have V20:=Lh (V20.out.below hb)
    have V27:=Lh (V27.out.below hb)
    clear hb HT c0 c1 c2 c3 c4 c5 d0 d1
    go_wp2
    go_ret
    exact ⟨rfl,B.out⟩
end Go.Proofs.Ytdbeiikaeccbhaa
