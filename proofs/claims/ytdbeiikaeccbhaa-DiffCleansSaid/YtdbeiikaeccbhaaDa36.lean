/- Texts of the layers below, joined. -/
import Derived.Test.YtdbeiikaeccbhaaDa35
set_option maxRecDepth 100000
set_option maxHeartbeats 12800000
set_option linter.unusedVariables false
namespace Go.Proofs.Ytdbeiikaeccbhaa
open Go.RowKit
set_option maxRecDepth 100000
theorem whP_congr {T A p:Int} {set:Txt} {wh wh':Nat→Bool}:∀ {k:Nat},(∀ n,n < k→wh n=wh' n)→whP T A p set wh k=whP T A p set wh' k
 | 0,_=>rfl
 | k + 1,h=>by
  show (if wh k=true then whP T A p set wh k ++ [(atP T A p (k:Int),pgSec p (k:Int) (set.getD k 0))] else whP T A p set wh k)=(if wh' k=true then whP T A p set wh' k ++ [(atP T A p (k:Int),pgSec p (k:Int) (set.getD k 0))] else whP T A p set wh' k)
  rw [whP_congr (k:=k) (fun n hn=>h n (by omega)),h k (by omega)]
theorem outW_congr {mk set:Txt} {wh wh':Nat→Bool} {m:Nat} (h:∀ n,n < m→wh n=wh' n):outW mk set wh m=outW mk set wh' m:=by
 unfold outW
 refine List.map_congr_left fun n hn=>?_
 rw [h n (List.mem_range.1 hn)]
theorem rangeB_getD (f:Nat→Bool) {m n:Nat} (h:n < m):((List.range m).map f).getD n false=f n:=by
 rw [gtD,List.getElem?_map,List.getElem?_range h]
 rfl
theorem Seq.ownB {w:World} {base:Nat} {t:TypeId} {A:Option Addr} {n c:Nat} {bs:List Bool} (h:w.ownsRow base t 1 (.slice A n c) n (bools bs)):Seq w w.heap.size A (bools bs):=Seq.own h
theorem rwritten_of {P T A M W Q p:Int} (hc:mayC P T A M W Q) (hp:0≤p∧p < P) (m:Nat) (hm:m=(pagC T).toNat) (wh:Nat→Bool) (D:Option Addr) (c:Nat) (mk:Txt) (D1:Option Addr) (c1:Nat) (set:Txt) (D2:Option Addr) (c2:Nat) (bs:List Bool) (w:World)
  (h0:Arg w .u8 D m c mk) (h1:Arg w .u8 D1 m c1 set) (h2:Seq w w.heap.size D2 (bools bs)) (h3:bs.length=m) (hy0:∀ z ∈ mk,isByte z) (hy1:∀ z ∈ set,isByte z) (hwh:∀ n,n < m→bs.getD n false=wh n) :
  Calls Try.prog 57 #[cfgV P T A M W Q,.int .i64 p,.slice D m c,.slice D1 m c1,.slice D2 m c2] w (WrOut w (outW mk set wh m) (actW (whP T A p set wh m))):=by
 have:=rwritten_any hc hp m hm D c mk D1 c1 set D2 c2 bs w h0 h1 h2 h3 hy0 hy1
 rwa [outW_congr hwh,whP_congr hwh] at this
theorem rcleaned_any {P T A M W Q p:Int} (hc:mayC P T A M W Q) (hp:0≤p∧p < P) (m:Nat) (hm:m=(pagC T).toNat) (D:Option Addr) (c:Nat) (mk:Txt) (D1:Option Addr) (c1:Nat) (wk:Txt) (w:World)
  (h0:Arg w .u8 D m c mk) (h1:Arg w .u8 D1 m c1 wk) (s0:IsSet T.toNat mk) (s1:IsSet T.toNat wk) :
  Calls Try.prog 33 #[cfgV P T A M W Q,.int .i64 p,.slice D m c,.slice D1 m c1] w (WrOut w (outW mk (bothL T.toNat mk wk) (difW (bothL T.toNat mk wk) mk) m) (actW (whP T A p (bothL T.toNat mk wk) (difW (bothL T.toNat mk wk) mk) m))):=by
 have hT:1≤T.toNat∧T.toNat≤16∧((T.toNat:Nat):Int)=T:=by unfold mayC at hc;omega
 have hgi:=pag_is hc
 have hm2:m≤2:=by omega
 obtain ⟨set,hset⟩:∃ s,s=bothL T.toNat mk wk:=⟨_,rfl⟩
 have hss:IsSet T.toNat set:=by rw [hset];exact made_isSet _ _
 have hsl:set.length=m:=by rw [hss.len,hm,pag_pgs hc]
 have BO:=Lh (fun wx (hx:Arg wx .u8 D m c mk) (hy:Arg wx .u8 D1 m c1 wk)=>rboth14_any T.toNat D m c mk D1 m c1 wk wx hx hy hT.1 hT.2.1 s0 s1)
 rw [hT.2.2,← hset] at BO
 rw [← hset]
 have DI:=Lh (fun D2 c2 wx (hx:Arg wx .u8 D2 m c2 set) (hy:Arg wx .u8 D m c mk)=>differ14_any D2 m c2 set D m c mk wx hx hy (Nat.le_refl _) (by omega))
 have WR:=Lh (fun D2 c2 D3 c3 wx (hx:Arg wx .u8 D m c mk) (hy:Arg wx .u8 D2 m c2 set) (hz:Seq wx wx.heap.size D3 (bools ((List.range m).map (difW set mk))))=>rwritten_of hc hp m hm (difW set mk) D c mk D2 c2 set D3 c3 _ wx hx hy hz (by simp) s0.byte hss.byte (fun n hn=>rangeB_getD _ hn))
 obtain ⟨o,ho⟩:∃ o,o=outW mk set (difW set mk) m:=⟨_,rfl⟩
 obtain ⟨l,hl⟩:∃ l,l=actW (whP T A p set (difW set mk) m):=⟨_,rfl⟩
 rw [← ho,← hl] at WR ⊢
 unfold WrOut at WR ⊢
 obtain ⟨no,hno⟩:∃ n,n=o.length:=⟨_,rfl⟩
 obtain ⟨nl,hnl⟩:∃ n,n=l.length:=⟨_,rfl⟩
 rw [← hno,← hnl] at WR ⊢
 obtain ⟨x,hbel⟩:=box_cfg w P T A M W Q
 obtain ⟨w1,hw1⟩:∃ x:World,x=w.alloc (.cells #[.int .i64 P,.int .i64 T,.int .i64 A,.int .i64 M,.int .i64 W,.int .i64 Q] 28):=⟨_,rfl⟩
 rw [← hw1] at x hbel
 have X:=Lh x
 have B:=Lh hbel
 have R0:=Lh (h0.below hbel)
 have R1:=Lh (h1.below hbel)
 have HSL:=Lh hsl
 obtain ⟨c0,c1',c2,c3,c4,c5⟩:=x.cfg
 clear hc hp hm h0 h1 s0 s1 hT hgi hset hss hsl ho hl hno hnl x hbel
 go_enter Try.func33,Try.ntmps33
 go_wp2_with fail
 rw [← hw1]
 clear hw1
 refine (BO.out _ R0.out R1.out).mono ?_
 intro e w2 hout
 obtain ⟨A2,r2,rfl,hown,hb⟩:=hout.len rfl HSL.out
 have B:=Lh (B.out.trans (hb.mono B.out.size))
 have X:=Lh (X.out.below hb X.out.lt)
 have R0:=Lh (R0.out.below hb)
 have RS:=Lh (Arg.own hown)
 clear hb hown hout c0 c1' c2 c3 c4 c5 BO R1
 go_upto_region 2 with fail
 have keepX:∀ wx,Below w2.heap.size w2 wx→wx.cell? ⟨w.heap.size,0,none⟩=some (.int .i64 P)∧wx.cell? ⟨w.heap.size,1,none⟩=some (.int .i64 T)∧wx.cell? ⟨w.heap.size,2,none⟩=some (.int .i64 A)∧wx.cell? ⟨w.heap.size,3,none⟩=some (.int .i64 M)∧wx.cell? ⟨w.heap.size,4,none⟩=some (.int .i64 W)∧wx.cell? ⟨w.heap.size,5,none⟩=some (.int .i64 Q):=fun wx hx=>(X.out.below hx X.out.lt).cfg
 have hcur:Below w2.heap.size w2 w2.drew:=below_drewN (Below.refl _ _) 1
 have hkX:=keepX _ hcur
 go_region_held3 (fun w'=>w'.cell? ⟨w.heap.size,0,none⟩=some (.int .i64 P)∧w'.cell? ⟨w.heap.size,1,none⟩=some (.int .i64 T)∧w'.cell? ⟨w.heap.size,2,none⟩=some (.int .i64 A)∧w'.cell? ⟨w.heap.size,3,none⟩=some (.int .i64 M)∧w'.cell? ⟨w.heap.size,4,none⟩=some (.int .i64 W)∧w'.cell? ⟨w.heap.size,5,none⟩=some (.int .i64 Q))
  (first | exact hkX | go_keep)
  (first
   | (go_at_call 60;(with_reducible refine (DI.out _ _ _ (RS.out.below hcur) (R0.out.below hcur)).mono ?_);rintro e w3 ⟨A3,r3,rfl,hown3,hb3⟩;have hcur:=hcur.trans (hb3.mono hcur.size);have hkX:=keepX _ hcur)
   | (go_at_call 57;have hs4:=hcur.size;(with_reducible refine (WR.out _ _ _ _ _ (R0.out.below hcur) (RS.out.below hcur) (Seq.ownB hown3)).mono ?_);rintro e w4 ⟨A4,r4,A4',r4',rfl,hown4,hact4,hb4⟩;have hcur:=hcur.trans (hb4.mono hcur.size);have hkX:=keepX _ hcur))
 have FO:=Lh (owns_base hown4 (Nat.le_trans B.out.size hs4))
 have FA:=Lh (hact4.lower (Nat.le_trans B.out.size hs4))
 have FB:=Lh (B.out.trans (hcur.mono B.out.size))
 clear hown4 hact4 hb4 hs4 hcur hkX keepX hown3 hb3
 go_wp2
 go_ret2
 exact ⟨A4,r4,A4',r4',rfl,FO.out,FA.out,FB.out⟩
set_option maxRecDepth 100000
theorem rfilled_any {P T A M W Q p:Int} (hc:mayC P T A M W Q) (hp:0≤p∧p < P) (m:Nat) (hm:m=(pagC T).toNat) (D:Option Addr) (c:Nat) (mk:Txt) (w:World)
  (h0:Arg w .u8 D m c mk) (s0:IsSet T.toNat mk) :
  Calls Try.prog 34 #[cfgV P T A M W Q,.int .i64 p,.slice D m c] w (WrOut w (outW mk (allB T) (difW (allB T) mk) m) (actW (whP T A p (allB T) (difW (allB T) mk) m))):=by
 have hgi:=pag_is hc
 have hm2:m≤2:=by omega
 have hss:IsSet T.toNat (allB T):=by rw [all_made hc];exact made_isSet _ _
 have hsl:(allB T).length=m:=by rw [hss.len,hm,pag_pgs hc]
 have FU:=Lh (fun wx:World=>rfull_any hc wx)
 obtain ⟨set,hset⟩:∃ s,s=allB T:=⟨_,rfl⟩
 rw [← hset] at FU hss hsl ⊢
 have DI:=Lh (fun D2 c2 wx (hx:Arg wx .u8 D2 m c2 set) (hy:Arg wx .u8 D m c mk)=>differ14_any D2 m c2 set D m c mk wx hx hy (Nat.le_refl _) (by omega))
 have WR:=Lh (fun D2 c2 D3 c3 wx (hx:Arg wx .u8 D m c mk) (hy:Arg wx .u8 D2 m c2 set) (hz:Seq wx wx.heap.size D3 (bools ((List.range m).map (difW set mk))))=>rwritten_of hc hp m hm (difW set mk) D c mk D2 c2 set D3 c3 _ wx hx hy hz (by simp) s0.byte hss.byte (fun n hn=>rangeB_getD _ hn))
 obtain ⟨o,ho⟩:∃ o,o=outW mk set (difW set mk) m:=⟨_,rfl⟩
 obtain ⟨l,hl⟩:∃ l,l=actW (whP T A p set (difW set mk) m):=⟨_,rfl⟩
 rw [← ho,← hl] at WR ⊢
 unfold WrOut at WR ⊢
 obtain ⟨no,hno⟩:∃ n,n=o.length:=⟨_,rfl⟩
 obtain ⟨nl,hnl⟩:∃ n,n=l.length:=⟨_,rfl⟩
 rw [← hno,← hnl] at WR ⊢
 obtain ⟨x,hbel⟩:=box_cfg w P T A M W Q
 obtain ⟨w1,hw1⟩:∃ x:World,x=w.alloc (.cells #[.int .i64 P,.int .i64 T,.int .i64 A,.int .i64 M,.int .i64 W,.int .i64 Q] 28):=⟨_,rfl⟩
 rw [← hw1] at x hbel
 have X:=Lh x
 have B:=Lh hbel
 have R0:=Lh (h0.below hbel)
 have HSL:=Lh hsl
 obtain ⟨c0,c1',c2,c3,c4,c5⟩:=x.cfg
 clear hc hp hm h0 s0 hgi hset hss hsl ho hl hno hnl x hbel
 go_enter Try.func34,Try.ntmps34
 go_wp2_with fail
 rw [← hw1]
 clear hw1
 refine (FU.out _).mono ?_
 intro e w2 hout
 obtain ⟨A2,r2,rfl,hown,hb⟩:=hout.len rfl HSL.out
 have B:=Lh (B.out.trans (hb.mono B.out.size))
 have X:=Lh (X.out.below hb X.out.lt)
 have R0:=Lh (R0.out.below hb)
 have RS:=Lh (Arg.own hown)
 clear hb hown hout c0 c1' c2 c3 c4 c5 FU
 go_upto_region 2 with fail
 have keepX:∀ wx,Below w2.heap.size w2 wx→wx.cell? ⟨w.heap.size,0,none⟩=some (.int .i64 P)∧wx.cell? ⟨w.heap.size,1,none⟩=some (.int .i64 T)∧wx.cell? ⟨w.heap.size,2,none⟩=some (.int .i64 A)∧wx.cell? ⟨w.heap.size,3,none⟩=some (.int .i64 M)∧wx.cell? ⟨w.heap.size,4,none⟩=some (.int .i64 W)∧wx.cell? ⟨w.heap.size,5,none⟩=some (.int .i64 Q):=fun wx hx=>(X.out.below hx X.out.lt).cfg
 have hcur:Below w2.heap.size w2 w2.drew:=below_drewN (Below.refl _ _) 1
 have hkX:=keepX _ hcur
 go_region_held3 (fun w'=>w'.cell? ⟨w.heap.size,0,none⟩=some (.int .i64 P)∧w'.cell? ⟨w.heap.size,1,none⟩=some (.int .i64 T)∧w'.cell? ⟨w.heap.size,2,none⟩=some (.int .i64 A)∧w'.cell? ⟨w.heap.size,3,none⟩=some (.int .i64 M)∧w'.cell? ⟨w.heap.size,4,none⟩=some (.int .i64 W)∧w'.cell? ⟨w.heap.size,5,none⟩=some (.int .i64 Q))
  (first | exact hkX | go_keep)
  (first
   | (go_at_call 60;(with_reducible refine (DI.out _ _ _ (RS.out.below hcur) (R0.out.below hcur)).mono ?_);rintro e w3 ⟨A3,r3,rfl,hown3,hb3⟩;have hcur:=hcur.trans (hb3.mono hcur.size);have hkX:=keepX _ hcur)
   | (go_at_call 57;have hs4:=hcur.size;(with_reducible refine (WR.out _ _ _ _ _ (R0.out.below hcur) (RS.out.below hcur) (Seq.ownB hown3)).mono ?_);rintro e w4 ⟨A4,r4,A4',r4',rfl,hown4,hact4,hb4⟩;have hcur:=hcur.trans (hb4.mono hcur.size);have hkX:=keepX _ hcur))
 have FO:=Lh (owns_base hown4 (Nat.le_trans B.out.size hs4))
 have FA:=Lh (hact4.lower (Nat.le_trans B.out.size hs4))
 have FB:=Lh (B.out.trans (hcur.mono B.out.size))
 clear hown4 hact4 hb4 hs4 hcur hkX keepX hown3 hb3
 go_wp2
 go_ret2
 exact ⟨A4,r4,A4',r4',rfl,FO.out,FA.out,FB.out⟩
theorem rmarked_any {P T A M W Q p:Int} (hc:mayC P T A M W Q) (hp:0≤p∧p < P) (m:Nat) (hm:m=(pagC T).toNat) (D:Option Addr) (c:Nat) (mk:Txt) (D1:Option Addr) (c1:Nat) (wk:Txt) (t:Nat) (w:World)
  (h0:Arg w .u8 D m c mk) (h1:Arg w .u8 D1 m c1 wk) (s0:IsSet T.toNat mk) (s1:IsSet T.toNat wk) (ht:(t:Int) < T) :
  Calls Try.prog 32 #[cfgV P T A M W Q,.int .i64 p,.slice D m c,.slice D1 m c1,.int .i64 (t:Int)] w (WrOut w (outW mk (dmS T mk wk (t:Int)) (dmW mk (t:Int)) m) (actW (whP T A p (dmS T mk wk (t:Int)) (dmW mk (t:Int)) m))):=by
 have hT:1≤T.toNat∧T.toNat≤16∧((T.toNat:Nat):Int)=T:=by unfold mayC at hc;omega
 have hgi:=pag_is hc
 have hm2:m≤2:=by omega
 have ht2:t < T.toNat:=by omega
 have htq:t / 8 < m:=by rw [hm,pag_pgs hc];exact pgs_le ht2
 obtain ⟨bo,hbo⟩:∃ s,s=bothL T.toNat mk wk:=⟨_,rfl⟩
 have hbs:IsSet T.toNat bo:=by rw [hbo];exact made_isSet _ _
 have hbl:bo.length=m:=by rw [hbs.len,hm,pag_pgs hc]
 have BO:=Lh (fun wx (hx:Arg wx .u8 D m c mk) (hy:Arg wx .u8 D1 m c1 wk)=>rboth14_any T.toNat D m c mk D1 m c1 wk wx hx hy hT.1 hT.2.1 s0 s1)
 rw [hT.2.2,← hbo] at BO
 have WI:=Lh (fun D2 c2 wx (hx:Arg wx .u8 D2 m c2 bo)=>rWith_any T.toNat t D2 m c2 bo true wx hx hT.1 hT.2.1 hbs ht2)
 have hdm:made T.toNat (fun u=>if u=t then true else hasT bo u)=dmS T mk wk (t:Int):=by
  unfold dmS
  rw [Int.toNat_natCast]
  refine made_congr fun u hu=>?_
  by_cases e:u=t
  ·rw [if_pos e,if_pos e]
  ·rw [if_neg e,if_neg e,hbo]
   unfold bothL
   rw [hasT_made,decide_eq_true hu,Bool.true_and]
 rw [hT.2.2,hdm] at WI
 obtain ⟨set,hset⟩:∃ s,s=dmS T mk wk (t:Int):=⟨_,rfl⟩
 have hss:IsSet T.toNat set:=by rw [hset];exact made_isSet _ _
 have hsl:set.length=m:=by rw [hss.len,hm,pag_pgs hc]
 rw [← hset] at WI ⊢
 obtain ⟨is,his⟩:∃ b,b=hasT mk t:=⟨_,rfl⟩
 have IN:=Lh (fun wx (hx:Arg wx .u8 D m c mk)=>in_any D m c mk t wx _ hx.seq hx.len s0.byte (by omega) htq)
 rw [← his] at IN
 obtain ⟨k,hk⟩:∃ k:Nat,k=t / 8:=⟨_,rfl⟩
 rw [← hk] at htq
 have hk2:(t:Int) / 8=(k:Int):=by omega
 have hwhs:∀ n,n < m→((List.replicate m false).set k (!is)).getD n false=dmW mk (t:Int) n:=fun n hn=>by
  unfold dmW
  rw [Int.toNat_natCast,← hk,← his,gtD,List.getElem?_set]
  by_cases e:k=n
  ·subst e
   rw [if_pos rfl,if_pos (by rw [List.length_replicate];exact hn),decide_eq_true rfl]
   rfl
  ·rw [if_neg e,decide_eq_false (fun e2=>e e2.symm),List.getElem?_replicate,if_pos hn]
   rfl
 have WR:=Lh (fun D2 c2 D3 c3 wx (hx:Arg wx .u8 D m c mk) (hy:Arg wx .u8 D2 m c2 set) (hz:Seq wx wx.heap.size D3 (bools ((List.replicate m false).set k (!is))))=>rwritten_of hc hp m hm (dmW mk (t:Int)) D c mk D2 c2 set D3 c3 _ wx hx hy hz (by simp) s0.byte hss.byte hwhs)
 obtain ⟨o,ho⟩:∃ o,o=outW mk set (dmW mk (t:Int)) m:=⟨_,rfl⟩
 obtain ⟨l,hl⟩:∃ l,l=actW (whP T A p set (dmW mk (t:Int)) m):=⟨_,rfl⟩
 rw [← ho,← hl] at WR ⊢
 unfold WrOut at WR ⊢
 obtain ⟨no,hno⟩:∃ n,n=o.length:=⟨_,rfl⟩
 obtain ⟨nl,hnl⟩:∃ n,n=l.length:=⟨_,rfl⟩
 rw [← hno,← hnl] at WR ⊢
 obtain ⟨x,hbel⟩:=box_cfg w P T A M W Q
 obtain ⟨w1,hw1⟩:∃ x:World,x=w.alloc (.cells #[.int .i64 P,.int .i64 T,.int .i64 A,.int .i64 M,.int .i64 W,.int .i64 Q] 28):=⟨_,rfl⟩
 rw [← hw1] at x hbel
 have X:=Lh x
 have B:=Lh hbel
 have R0:=Lh (h0.below hbel)
 have R1:=Lh (h1.below hbel)
 have HSL:=Lh hsl
 have HBL:=Lh hbl
 have hmk:=make_bools m (by omega) w1
 have hown0:=own_bools m (by omega) w1
 have hal:Below w1.heap.size w1 (w1.alloc (.cells (bools (List.replicate m false)).toArray 4)):=(Below.refl _ _).alloc (Nat.le_refl _) _
 obtain ⟨w2,hw2⟩:∃ y:World,y=w1.alloc (.cells (bools (List.replicate m false)).toArray 4):=⟨_,rfl⟩
 rw [← hw2] at hmk hown0 hal
 obtain ⟨gB,hgB⟩:∃ y:Nat,y=w1.heap.size:=⟨_,rfl⟩
 rw [← hgB] at hmk hown0 hal
 have OB:=Lh hown0
 have BA:=Lh hal
 have HGB:=Lh hgB
 have hwr:IntKind.i64.wrap (k:Int)=k:=Lib.wrap_i64_small k (by omega)
 have hki:(k:Int) < (m:Int):=by omega
 have HKM:=Lh htq
 clear hc hp hm h0 h1 s0 s1 ht hT hgi ht2 htq hbo hbs hbl hdm hset hss hsl his hk hwhs ho hl hno hnl x hbel hown0 hal hw2 hgB
 go_enter Try.func32,Try.ntmps32
 go_upto_region 1 with fail
 rw [← hw1]
 clear hw1
 go_upto_region 2 with fail
 clear hmk
 have Rw0:=R0
 have Rw1:=R1
 have Xw:=X
 have Bw:=B
 have R0:=Lh (R0.out.below (w':=w2) (by rw [← HGB.out];exact BA.out))
 have R1:=Lh (R1.out.below (w':=w2) (by rw [← HGB.out];exact BA.out))
 have X:=Lh (X.out.below (B:=gB) BA.out (by rw [HGB.out];exact X.out.lt))
 have B:=Lh (B.out.trans (BA.out.mono (by rw [HGB.out];exact B.out.size)))
 go_wp2_with fail
 refine (IN.out _ R0.out).mono ?_
 rintro e w3 ⟨rfl,q3,rfl⟩
 have hb:=below_drewN (Below.refl w2.heap.size w2) q3
 obtain ⟨v3,hv3⟩:∃ y,y=w2.drewN q3:=⟨_,rfl⟩
 rw [← hv3] at hb ⊢
 have R0:=Lh (R0.out.below hb)
 have R1:=Lh (R1.out.below hb)
 have X:=Lh (X.out.below hb X.out.lt)
 have B:=Lh (B.out.trans (hb.mono B.out.size))
 have OB:=Lh (owns_below OB.out hb)
 have BA:=Lh (BA.out.trans (hb.mono (by rw [HGB.out];rw [HGB.out] at BA;exact BA.out.size)))
 clear hb hv3
 obtain ⟨gb,vb,hgb,_,zb,fb,hsetb⟩:=owns_bool_at OB.out HKM.out
 injection hgb with hgb
 injection hgb with hgb
 subst hgb
 have OB4:=Lh (hsetb (!is))
 have BA4:=Lh (BA.out.setCell (p:=⟨gB,k,none⟩) (Nat.le_refl _) (.bool (!is)))
 clear hsetb
 go_upto_region 3 with fail
 clear zb fb
 obtain ⟨w4,hw4⟩:∃ y:World,y=v3.setCell ⟨gB,k,none⟩ (.bool (!is)):=⟨_,rfl⟩
 rw [← hw4] at OB4 BA4 ⊢
 clear hw4
 have R0:=Lh (Rw0.out.below (w':=w4) (by rw [← HGB.out];exact BA4.out))
 have R1:=Lh (Rw1.out.below (w':=w4) (by rw [← HGB.out];exact BA4.out))
 have X:=Lh (Xw.out.below (B:=gB) BA4.out (by rw [HGB.out];exact Xw.out.lt))
 have B:=Lh (Bw.out.trans (BA4.out.mono (by rw [HGB.out];exact Bw.out.size)))
 have keepX:∀ wx,Below w4.heap.size w4 wx→wx.cell? ⟨w.heap.size,0,none⟩=some (.int .i64 P)∧wx.cell? ⟨w.heap.size,1,none⟩=some (.int .i64 T)∧wx.cell? ⟨w.heap.size,2,none⟩=some (.int .i64 A)∧wx.cell? ⟨w.heap.size,3,none⟩=some (.int .i64 M)∧wx.cell? ⟨w.heap.size,4,none⟩=some (.int .i64 W)∧wx.cell? ⟨w.heap.size,5,none⟩=some (.int .i64 Q):=fun wx hx=>(X.out.below hx X.out.lt).cfg
 have hcur:Below w4.heap.size w4 w4.drew:=below_drewN (Below.refl _ _) 1
 have hkX:=keepX _ hcur
 go_region_held3 (fun w'=>w'.cell? ⟨w.heap.size,0,none⟩=some (.int .i64 P)∧w'.cell? ⟨w.heap.size,1,none⟩=some (.int .i64 T)∧w'.cell? ⟨w.heap.size,2,none⟩=some (.int .i64 A)∧w'.cell? ⟨w.heap.size,3,none⟩=some (.int .i64 M)∧w'.cell? ⟨w.heap.size,4,none⟩=some (.int .i64 W)∧w'.cell? ⟨w.heap.size,5,none⟩=some (.int .i64 Q))
  (first | exact hkX | go_keep)
  (first
   | (go_at_call 59;(with_reducible refine (BO.out _ (R0.out.below hcur) (R1.out.below hcur)).mono ?_);intro e w5 hout;obtain ⟨A5,r5,rfl,hown5,hb5⟩:=hout.len rfl HBL.out;have hs5:=hcur.size;have hcur:=hcur.trans (hb5.mono hcur.size);have hkX:=keepX _ hcur)
   | (go_at_call 58;(with_reducible refine (WI.out _ _ _ (Arg.own hown5)).mono ?_);intro e w6 hout;obtain ⟨A6,r6,rfl,hown6,hb6⟩:=hout.len rfl HSL.out;have hcur:=hcur.trans (hb6.mono hcur.size);have hkX:=keepX _ hcur)
   | (go_at_call 57;have hs4:=hcur.size;(with_reducible refine (WR.out _ _ _ _ _ (R0.out.below hcur) (Arg.own hown6) (Seq.ownB (bs:=(List.replicate m false).set k (!is)) (by have:=owns_below OB4.out hcur;exact this))).mono ?_);rintro e w4 ⟨A4,r4,A4',r4',rfl,hown4,hact4,hb4⟩;have hcur:=hcur.trans (hb4.mono hcur.size);have hkX:=keepX _ hcur))
 have FO:=Lh (owns_base hown4 (Nat.le_trans B.out.size hs4))
 have FA:=Lh (hact4.lower (Nat.le_trans B.out.size hs4))
 have FB:=Lh (B.out.trans (hcur.mono B.out.size))
 clear hown4 hact4 hb4 hs4 hcur hkX keepX hown5 hb5 hs5 hown6 hb6
 go_wp2
 go_ret2
 exact ⟨A4,r4,A4',r4',rfl,FO.out,FA.out,FB.out⟩
end Go.Proofs.Ytdbeiikaeccbhaa
