/- Texts of layers 1 to 12, joined. -/
import Derived.Test.YtifgcfepbenpjaaGreatNa17
import Derived.Test.YtifgcfepbenpjaaGreatNa24
set_option maxRecDepth 100000
set_option maxHeartbeats 12800000
set_option linter.unusedVariables false
namespace Go.Proofs.YtifgcfepbenpjaaGreat
open Go.RowKit
theorem wa_pend {S:List Sec} {C:List Pnd} {a:Int} (hm:mayD S C=true) (h0:0≤a) (h1:a < (S.length:Int)):waB S C a=pendB C a:=by
 have ha:askE S C a=0:=by unfold askE;rw [if_pos hm,if_neg (by omega)]
 unfold waB
 rw [if_pos ha]
theorem rbusy6_any (A:Option Addr) (n c:Nat) (A':Option Addr) (n' c':Nat) (S:List Sec) (C:List Pnd) (a m:Nat) (w:World) (hq:Dsk w A n c A' n' c' S C) (hs:SmallD S C) (hmay:mayD S C=true) (hm4:m≤4) (han:a + 2 * m≤n) :
  Calls Tryz.prog 141 #[diskV A n c A' n' c',.int .i64 (a:Int),.int .i64 (m:Int)] w fun e w'=>e=.returned (.bool (busyTo S C a (2 * m)))∧Below w.heap.size w w':=by
 have hn100:n≤300:=by have:=hs.secs;have:=hq.secs.len;omega
 have hsl:=hq.secs.len
 have hbel:Below w.heap.size w (w.alloc (.cells #[.slice A n c,.slice A' n' c'] 25)):=(Below.refl _ _).alloc (Nat.le_refl _) _
 have x:=DBox.new hq
 obtain ⟨w1,hW⟩:∃ x:World,x=w.alloc (.cells #[.slice A n c,.slice A' n' c'] 25):=⟨_,rfl⟩
 rw [← hW] at hbel x
 have X:=Lh x
 have B:=Lh hbel
 have WA:=Lh (fun (k:Nat) (hk:k < 2 * m) wx (hx:Below w1.heap.size w1 wx)=>(by
  have h:=pending_any A n c A' n' c' S C ((a:Int) + (k:Int)) wx (x.below hx).dsk
  rwa [← wa_pend (S:=S) hmay (by omega) (by omega)] at h :
  Calls Tryz.prog 172 #[diskV A n c A' n' c',.int .i64 ((a:Int) + (k:Int))] wx fun e w'=>e=.returned (.bool (waB S C ((a:Int) + (k:Int))))∧Below wx.heap.size wx w'))
 clear hbel x hq hs hmay
 have hw2:wrap64 (2 * (m:Int))=2 * (m:Int):=by unfold wrap64;omega
 go_enter Tryz.func141,Tryz.ntmps141
 go_wp2
 rw [← hW]
 clear hW
 go_loopw [7] (fun i wr=>∃ k:Nat,k≤2 * m∧i=.int .i64 k∧(∀ i,i < k→waB S C ((a:Int) + (i:Int))=false)∧Below w1.heap.size w1 wr) (fun i _=>2 * m - (intOf i).toNat)
 case atStart=>exact ⟨0,Nat.zero_le _,rfl,fun i hi=>absurd hi (Nat.not_lt_zero _),Below.refl _ _⟩
 case round =>
  obtain ⟨k,hk,rfl,hno,hb⟩:=hrel
  by_cases hkn:k < 2 * m
  ·have hki:(k:Int) < 2 * (m:Int):=by omega
   have hwa:wrap64 ((a:Int) + (k:Int))=(a:Int) + (k:Int):=by unfold wrap64;omega
   have R:=Lh (WA.out k hkn wr hb)
   obtain ⟨c0,c1⟩:=(X.out.below hb).cells
   have HB:=Lh hb
   have HNO:=Lh hno
   obtain ⟨q,hq⟩:∃ q,q=waB S C ((a:Int) + (k:Int)):=⟨_,rfl⟩
   rw [← hq] at R
   have HQ:=Lh hq
   clear hb hno hq
   go_wp2_with fail
   refine R.out.mono ?_
   rintro e w2 ⟨rfl,hb2⟩
   have HB2:=Lh (HB.out.trans (hb2.mono HB.out.size))
   clear hb2 R HB c0 c1
   cases q with
   | true =>
    go_wp2
    go_ret
    exact ⟨by rw [busy_yes hkn HQ.out.symm];rfl,B.out.trans (HB2.out.mono B.out.size)⟩
   | false =>
    go_wp2
    go_roundw
    case rel=>exact ⟨k + 1,by omega,by go_num,fun i hi=>by rcases Nat.lt_or_ge i k with h | h;(exact HNO.out i h);(have e:i=k:=Nat.le_antisymm (Nat.le_of_lt_succ hi) h;subst e;exact HQ.out.symm),HB2.out⟩
    all_goals (try case measure=>simp [intOf];omega)
  ·obtain rfl:k=2 * m:=by omega
   have HNO:=Lh hno
   have HB:=Lh hb
   have hki:¬ (((2 * m:Nat):Int) < 2 * (m:Int)):=by omega
   clear hno hb
   go_wp2
   go_ret
   exact ⟨by rw [busy_no HNO.out];rfl,B.out.trans (HB.out.mono B.out.size)⟩
theorem rcount6_any (A:Option Addr) (n c:Nat) (A':Option Addr) (n' c':Nat) (S:List Sec) (C:List Pnd) (a m:Nat) (w:World) (hq:Dsk w A n c A' n' c' S C) (hs:SmallD S C) (hmay:mayD S C=true) (hm4:m≤4) (han:a + 2 * m≤n) :
  Calls Tryz.prog 142 #[diskV A n c A' n' c',.int .i64 (a:Int),.int .i64 (m:Int)] w fun e w'=>e=.returned (.int .u64 (countTo (optsOf S C a (2 * m)) (2 * m)))∧Below w.heap.size w w':=by
 have hn100:n≤300:=by have:=hs.secs;have:=hq.secs.len;omega
 have hsl:=hq.secs.len
 have hbel:Below w.heap.size w (w.alloc (.cells #[.slice A n c,.slice A' n' c'] 25)):=(Below.refl _ _).alloc (Nat.le_refl _) _
 have x:=DBox.new hq
 obtain ⟨w1,hW⟩:∃ x:World,x=w.alloc (.cells #[.slice A n c,.slice A' n' c'] 25):=⟨_,rfl⟩
 rw [← hW] at hbel x
 have X:=Lh x
 have B:=Lh hbel
 obtain ⟨l,hl⟩:∃ l,l=optsOf S C a (2 * m):=⟨_,rfl⟩
 have OK:=Lh (fun (k:Nat) (hk:k < 2 * m)=>(by
  rw [hl,optsOf_get S C a hk,optAt_got hmay (by omega) (by omega)]:l.getD k none=if gotOk S C ((a:Int) + (k:Int))=true then some (gotB S C ((a:Int) + (k:Int))) else none))
 have GOOD:=Lh (fun (k:Nat) (hk:k < 2 * m) (hg:gotOk S C ((a:Int) + (k:Int))=true)=>(by
  have ha:askE S C ((a:Int) + (k:Int))=0:=by unfold askE;rw [if_pos hmay,if_neg (by omega)]
  have hr:rdE S C ((a:Int) + (k:Int))=0:=by unfold rdE;rw [if_pos ha,if_pos hg]
  have h:=rd_good hr hq.secs.byte hq.pnds.byte
  rwa [show rdB S C ((a:Int) + (k:Int))=gotB S C ((a:Int) + (k:Int)) from if_pos hr] at h:(gotB S C ((a:Int) + (k:Int))).length=32∧∀ z ∈ gotB S C ((a:Int) + (k:Int)),isByte z))
 have GOT:=Lh (fun (k:Nat) (hk:k < 2 * m) wx (hx:Below w1.heap.size w1 wx)=>got_any A n c A' n' c' S C (a + k) wx (x.below hx).dsk hs (by omega))
 have CB:=Lh (count_bounds (l:=l) (n:=2 * m) fun k hk T hT=>by
  rw [OK.out k hk] at hT
  split at hT
  ·rename_i hg
   injection hT with hT
   subst hT
   obtain ⟨h32,hby⟩:=GOOD.out k hk hg
   exact ver_bounds (by omega) hby
  ·cases hT)
 rw [← hl]
 clear hbel x hq hs hmay hl
 have hw2:wrap64 (2 * (m:Int))=2 * (m:Int):=by unfold wrap64;omega
 go_enter Tryz.func142,Tryz.ntmps142
 go_wp2
 rw [← hW]
 clear hW
 go_loopw [8,7,9,10] (fun i v _ _ wr=>∃ k:Nat,k≤2 * m∧i=.int .i64 k∧v=.int .u64 (countTo l k)∧Below w1.heap.size w1 wr) (fun i _ _ _ _=>2 * m - (intOf i).toNat)
 case atStart=>exact ⟨0,Nat.zero_le _,rfl,rfl,Below.refl _ _⟩
 case round =>
  obtain ⟨k,hk,rfl,rfl,hb⟩:=hrel
  by_cases hkn:k < 2 * m
  ·have hki:(k:Int) < 2 * (m:Int):=by omega
   have hwa:wrap64 ((a:Int) + (k:Int))=(a:Int) + (k:Int):=by unfold wrap64;omega
   have R:=GOT.out k hkn wr hb
   have O:=OK.out k hkn
   have G:=GOOD.out k hkn
   have cb:=CB.out k (by omega)
   rw [show ((a + k:Nat):Int)=(a:Int) + (k:Int) from by omega] at R
   obtain ⟨g,hg⟩:∃ g,g=gotOk S C ((a:Int) + (k:Int)):=⟨_,rfl⟩
   obtain ⟨T,hT⟩:∃ g,g=gotB S C ((a:Int) + (k:Int)):=⟨_,rfl⟩
   rw [← hg,← hT] at R O G
   obtain ⟨c0,c1⟩:=(X.out.below hb).cells
   have HB:=Lh hb
   have R:=Lh R
   have G:=Lh G
   clear hb hg hT
   obtain ⟨u,hu⟩:∃ v,v=countTo l k:=⟨_,rfl⟩
   rw [← hu] at cb
   have HU:=Lh hu
   rw [← hu]
   clear hu
   cases g with
   | false =>
    rw [if_neg (by decide)] at O
    have HCT:=Lh (show countTo l (k + 1)=countTo l k by rw [countTo,O])
    clear O cb
    go_wp2_with fail
    refine R.out.mono ?_
    rintro e w2 ⟨Bt,dt,rfl,hown,hb2⟩
    have HB2:=Lh (HB.out.trans (hb2.mono HB.out.size))
    clear hb2 R HB c0 c1 hown
    go_wp2
    go_roundw
    case rel=>exact ⟨k + 1,by omega,by go_num,by rw [HCT.out,HU.out],HB2.out⟩
    all_goals (try case measure=>simp [intOf];omega)
   | true =>
    rw [if_pos rfl] at O
    have hct:countTo l (k + 1)=max (countTo l k) (verOf T):=by rw [countTo,O]
    obtain ⟨h32,hby⟩:=G.out rfl
    have hv:=ver_bounds (t:=T) (by omega) hby
    obtain ⟨v,hvv⟩:∃ v,v=verOf T:=⟨_,rfl⟩
    rw [← hvv,← HU.out] at hct
    rw [← hvv] at hv
    have HV:=Lh hvv
    have HCT:=Lh hct
    have HBY:=Lh hby
    have H32:=Lh h32
    rw [h32] at R
    clear O hct hby hvv h32 G
    go_wp2_with fail
    refine R.out.mono ?_
    rintro e w2 ⟨Bt,dt,rfl,hown,hb2⟩
    have HB2:=Lh (HB.out.trans (hb2.mono HB.out.size))
    have ha:=Arg.own hown
    have N4:=Lh (number_any _ 4 dt (T.take 4) w2 _ (ha.first (by omega:4≤32)).seq (by rw [List.length_take,H32.out];rfl) (by omega) (fun z hz=>HBY.out z (List.mem_of_mem_take hz)))
    rw [show val (T.take 4)=verOf T from rfl,← HV.out] at N4
    have hdc:=ha.cap
    clear hb2 R HB c0 c1 hown ha
    go_wp2_with fail
    refine N4.out.mono ?_
    rintro e _ ⟨rfl,rfl⟩
    clear N4
    by_cases hvu:u < v
    ·have hmx:max u v=v:=by omega
     rw [hmx] at HCT
     go_wp2
     go_roundw
     case rel=>exact ⟨k + 1,by omega,by go_num,by rw [HCT.out],HB2.out⟩
     all_goals (try case measure=>simp [intOf];omega)
    ·have hmx:max u v=u:=by omega
     rw [hmx] at HCT
     go_wp2
     go_roundw
     case rel=>exact ⟨k + 1,by omega,by go_num,by rw [HCT.out],HB2.out⟩
     all_goals (try case measure=>simp [intOf];omega)
  ·obtain rfl:k=2 * m:=by omega
   have HB:=Lh hb
   have hki:¬ (((2 * m:Nat):Int) < 2 * (m:Int)):=by omega
   clear hb
   go_wp2
   go_ret
   exact ⟨rfl,B.out.trans (HB.out.mono B.out.size)⟩
theorem writesP_byte {at_:Int} {l:List Txt} {m:Nat} (hl:l.length=m) (hb:∀ t ∈ l,∀ z ∈ t,isByte z):∀ p ∈ writesP at_ l m,∀ z ∈ p.2,isByte z:=by
 intro p hp z hz
 unfold writesP someP at hp
 obtain ⟨i,hi,rfl⟩:=List.mem_map.1 hp
 have hi:=List.mem_range.1 hi
 rw [if_pos hi] at hz
 dsimp only at hz
 rw [gtD,geE (by omega:i < l.length)] at hz
 exact hb _ (List.getElem_mem _) z hz
theorem hF_slF {S:List Sec} {C:List Pnd} (hS:∀ s ∈ S,∀ z ∈ s.2,isByte z) (hC:∀ p ∈ C,∀ z ∈ p.2,isByte z) (a m:Nat) :
  hF m (optsOf S C a (2 * m))=if slF (slotV (optsOf S C a m)) (slotV (optsOf S C ((a + m:Nat):Int) m))=0 then 1 else 0:=by
 have p0:=(opts_pos hS hC (a:Int) m).1
 have p1:=(opts_pos hS hC ((a + m:Nat):Int) m).1
 unfold hF slF
 rw [opts_take,opts_drop]
 obtain ⟨x,hx⟩:∃ x,x=slotV (optsOf S C (a:Int) m):=⟨_,rfl⟩
 obtain ⟨y,hy⟩:∃ y,y=slotV (optsOf S C ((a + m:Nat):Int) m):=⟨_,rfl⟩
 rw [← hx] at p0 ⊢
 rw [← hy] at p1 ⊢
 clear hx hy
 by_cases h1:x=0∧y=0
 ·rw [if_pos (.inl h1.1),if_pos h1];rfl
 ·rw [if_neg h1]
  by_cases h2:x < y
  ·rw [if_pos (.inr h2),if_pos h2];rfl
  ·rw [if_neg h2,if_neg (by omega)];rfl
theorem owns_cell1 {w:World} {base n c i:Nat} {A:Option Addr} {vs:List Value} {u:Value} (h:w.ownsRow base 42 1 (.slice A n c) n vs) (hu:vs[i]?=some u):∃ b,A=some ⟨b,0,none⟩∧b < w.heap.size∧w.cell? ⟨b,i,none⟩=some u:=by
 obtain ⟨b,e,hlt,hc⟩:=owns_cell h hu
 exact ⟨b,e,hlt,hc⟩
theorem OwnTexts.pnd {w w':World} {base b:Nat} {A A':Option Addr} {n c n' c':Nat} {zss:List Txt} {ps:List Pnd} (h:OwnTexts w base A n c zss) (hp:OwnPnds w b A' n' c' ps) (hg:w.grownBy w' (Value.slice A' n' c').ownBlock):OwnTexts w' base A n c zss:=by
 obtain ⟨xs,hx,_⟩:=hp
 obtain ⟨vs,hown,hl,hby,hin⟩:=h
 refine ⟨vs,hown.kept hg (owns_other (by decide) hown hx),hl,hby,fun i hi=>?_⟩
 obtain ⟨Ai,ni,ci,hv,ho⟩:=hin i hi
 exact ⟨Ai,ni,ci,hv,ho.kept hg (owns_other (by decide) ho hx)⟩
theorem wpList_pnd (w0 w:World) {ops:Array Oper} {Q:Exit→Act→World→Prop} {a:Act} {rest:List Oper} {o:Oper} (hw:Region.wanted o (yielded ops a.tmps)=true) (s y:Operand)
  (ho:o.op=.call { callee:=.builtin .append,args:=#[s,y],argTypes:=#[23,23] }) (base:Nat) (A0:Option Addr) (n c0:Nat) (ss:List Pnd) (hs:a.eval s=.slice A0 n c0) (hown:OwnPnds w base A0 n c0 ss)
  (Ai:Option Addr) (ni ci:Nat) (x:Int) (zs:List Int) (hb:∀ z ∈ zs,isByte z) (hoi:w.ownsRow base 5 1 (.slice Ai ni ci) ni (ints .u8 zs)) (hy:a.eval y=.slice (some ⟨w.heap.size,0,none⟩) 1 1)
  (h63:n + 1≤100000) (hbel:Below base w0 w) (hw0:base≤w0.heap.size)
  (h:∀ g' c' w',OwnPnds w' base (some ⟨g',0,none⟩) (n + 1) c' (ss ++ [(x,zs)])→Below base w0 w'→(w.alloc (.cells #[(.int .i64 x),(.slice Ai ni ci)] 114)).grownBy w' (Value.slice A0 n c0).ownBlock→wpList Tryz.prog ops Q rest (a.put o.dst (.slice (some ⟨g',0,none⟩) (n + 1) c')) w') :
  wpList Tryz.prog ops Q (o :: rest) a (w.alloc (.cells #[(.int .i64 x),(.slice Ai ni ci)] 114)):=by
 refine wpList_want hw fun K hK=>?_
 obtain ⟨g',c',w',hrun,h2,h3,h4⟩:=run_pnd w0 w o.type base A0 n c0 ss hown Ai ni ci x zs hb hoi h63 hbel hw0
 unfold Oper.wp execOp
 simp only [ho,resolve,invoke,builtin,Sem.run_bind,Sem.run_pure,Result.andThen_ok,List.map_toArray,List.map_cons,List.map_nil,hs,hy,hrun]
 exact hK _ _ (h g' c' w' h2 h3 h4)
theorem rplanned_own (A:Option Addr) (n c:Nat) (A':Option Addr) (n' c':Nat) (S:List Sec) (C:List Pnd) (a m:Nat) (Ab:Option Addr) (nb cb:Nat) (b:Txt) (w:World) (hq:Dsk w A n c A' n' c' S C) (hs:SmallD S C) (hmay:mayD S C=true) (hm1:1≤m) (hm4:m≤4) (han:a + 2 * m≤n)
  (hb:Arg w .u8 Ab nb cb b) (hby:∀ z ∈ b,isByte z) (hnb:nb≤1000) (hsp:∀ a,Ab=some a→a.spot=none∨cb=0) :
  Calls Tryz.prog 139 #[diskV A n c A' n' c',.int .i64 (a:Int),.int .i64 (m:Int),.slice Ab nb cb] w fun e w'=>∃ A9 c9,e=.returned (.slice A9 m c9) ∧
   OwnPnds w' w.heap.size A9 m c9 (writesP ((a:Int) + hF m (optsOf S C a (2 * m)) * (m:Int)) (textsOf (countTo (optsOf S C a (2 * m)) (2 * m) + 1) b m) m)∧Below w.heap.size w w':=by
 have hn100:n≤300:=by have:=hs.secs;have:=hq.secs.len;omega
 have hsl:=hq.secs.len
 have hcb:=count_bounds (l:=optsOf S C a (2 * m)) (n:=2 * m) (fun k hk T hT=>by
  rw [optsOf_get S C a hk] at hT
  unfold optAt at hT
  split at hT
  ·rename_i h0
   injection hT with hT
   subst hT
   obtain ⟨h32,hbb⟩:=rd_good h0 hq.secs.byte hq.pnds.byte
   exact ver_bounds (by omega) hbb
  ·cases hT) (2 * m) (Nat.le_refl _)
 have hFS:=hF_slF hq.secs.byte hq.pnds.byte a m
 have SL:=Lh (fun wx hx=>rslot_any A n c A' n' c' S C a m wx hx hs hmay hm1 hm4 han)
 have CT:=Lh (fun wx hx=>rcount6_any A n c A' n' c' S C a m wx hx hs hmay hm4 han)
 obtain ⟨v,hv⟩:∃ v,v=countTo (optsOf S C a (2 * m)) (2 * m):=⟨_,rfl⟩
 obtain ⟨s,hsv⟩:∃ v,v=slF (slotV (optsOf S C a m)) (slotV (optsOf S C ((a + m:Nat):Int) m)):=⟨_,rfl⟩
 rw [← hsv] at SL hFS
 rw [← hv] at CT hcb ⊢
 rw [hFS]
 have hv2:v + 1 < 18446744073709551616:=by omega
 have hwv:IntKind.u64.wrap (v + 1)=v + 1:=wraps_u64 (v + 1) (by omega) (by omega)
 obtain ⟨l,hl⟩:∃ l,l=textsOf (v + 1) b m:=⟨_,rfl⟩
 have WBY:=Lh (fun at_=>writesP_byte (at_:=at_) (l:=l) (m:=m) (by rw [hl,textsOf_length]) (by rw [hl];exact textsOf_byte hby))
 have hb0:Below w.heap.size w (w.alloc (.cells #[.slice A n c,.slice A' n' c'] 25)):=(Below.refl _ _).alloc (Nat.le_refl _) _
 have X:=Lh (DBox.new hq)
 have HA:=Lh (hb.below hb0)
 have B:=Lh hb0
 have HBY:=Lh hby
 have HSP:=Lh hsp
 obtain ⟨c0,c1⟩:=X.out.cells
 clear hq hs hmay hb0 hb hby hsp hv hsv hFS hsl
 rw [← hl]
 by_cases h0:s=0
 ·subst h0
  rw [if_pos rfl,Int.one_mul]
  have hwam:wrap64 ((a:Int) + (m:Int))=(a:Int) + (m:Int):=by unfold wrap64;omega
  subst hl
  go_enter Tryz.func139,Tryz.ntmps139
  go_wp2_with fail
  refine (CT.out _ X.out.dsk).mono ?_
  rintro e w2 ⟨rfl,hb⟩
  have B:=Lh (B.out.trans (hb.mono B.out.size))
  have X:=Lh (X.out.below hb)
  have HA:=Lh (HA.out.below hb)
  clear hb c0 c1
  obtain ⟨c0,c1⟩:=X.out.cells
  have PT:=Lh (rparts_any (v + 1) ⟨by omega,hv2⟩ Ab nb cb b m hm4 w2 HA.out hnb HBY.out HSP.out)
  go_wp2_with fail
  refine PT.out.mono ?_
  rintro e w3 ⟨A14,c14,rfl,hO14,hb⟩
  have T14:=Lh (hO14.lower B.out.size)
  have B:=Lh (B.out.trans (hb.mono B.out.size))
  have X:=Lh (X.out.below hb)
  clear hb c0 c1 hO14 PT
  obtain ⟨c0,c1⟩:=X.out.cells
  go_wp2_with fail
  refine (SL.out _ X.out.dsk).mono ?_
  rintro e w4 ⟨rfl,hb⟩
  have B:=Lh (B.out.trans (hb.mono B.out.size))
  have T14:=Lh (T14.out.below hb)
  have HSW:=Lh B.out.size
  have TB:=Lh (fun k=>Texts.byte_at (Texts.of_own T14.out) k)
  clear hb c0 c1 X
  go_wp2
  go_loopw [11,10] (fun i o wr=>∃ (k:Nat) (A9:Option Addr) (c9:Nat),k≤m∧i=.int .i64 k∧o=.slice A9 k c9∧OwnPnds wr w.heap.size A9 k c9 ((writesP ((a:Int) + (m:Int)) (textsOf (v + 1) b m) m).take k)∧OwnTexts wr w.heap.size A14 m c14 (textsOf (v + 1) b m)∧Below w.heap.size w4 wr) (fun i _ _=>m - (intOf i).toNat)
  case atStart=>exact ⟨0,none,0,Nat.zero_le _,rfl,rfl,OwnPnds.nil _ _,T14.out,Below.refl _ _⟩
  case round =>
   obtain ⟨k,A9,c9,hk,rfl,rfl,hown,htx,hb⟩:=hrel
   by_cases hkm:k < m
   ·have hki:(k:Int) < (m:Int):=by omega
    have hwk:wrap64 (((a:Int) + (m:Int)) + (k:Int))=((a:Int) + (m:Int)) + (k:Int):=by unfold wrap64;omega
    have TX:=Lh htx
    obtain ⟨vs1,hv1,hl1,hy1,hi1⟩:=htx
    obtain ⟨A1,n1,c1,hx1,ho1⟩:=hi1 k hkm
    obtain ⟨b1,e1,hlt1,hcc⟩:=owns_cell1 hv1 hx1
    subst e1
    have HA1:=Lh ho1
    have O:=Lh hown
    have B4:=Lh hb
    have hsw:=HSW.out
    have HNX:=Lh (show (writesP ((a:Int) + (m:Int)) (textsOf (v + 1) b m) m).take (k + 1)=(writesP ((a:Int) + (m:Int)) (textsOf (v + 1) b m) m).take k ++ [(((a:Int) + (m:Int)) + (k:Int),(textsOf (v + 1) b m).getD k [])] by
     rw [take_snoc (by unfold writesP;rw [someP_len];exact hkm) ((0,[]):Pnd)]
     unfold writesP
     rw [someP_at hkm,if_pos hkm])
    clear hown hb hv1 hl1 hy1 hi1 hx1 ho1 hlt1
    go_wp2_with (at_builtin;go_must (refine wpList_pnd w4 _ rfl (.tmp 33) (.tmp 42) rfl w.heap.size A9 k c9 ((writesP ((a:Int) + (m:Int)) (textsOf (v + 1) b m) m).take k) rfl O.out A1 n1 c1 (((a:Int) + (m:Int)) + (k:Int)) ((textsOf (v + 1) b m).getD k []) (TB.out k) HA1.out rfl (by omega) B4.out hsw ?_);intro g9 c9' w9 ho9 hb9 hg9;have O9:=Lh ho9;have B9:=Lh hb9;have TX9:=Lh ((TX.out.below ((Below.refl _ _).alloc (Nat.le_refl _) _)).pnd (O.out.below ((Below.refl _ _).alloc (Nat.le_refl _) _)) hg9);clear ho9 hb9 hg9)
    go_roundw
    case rel=>exact ⟨k + 1,some ⟨g9,0,none⟩,c9',by omega,by go_num,rfl,by rw [HNX.out];exact O9.out,TX9.out,B9.out⟩
    all_goals (try case measure=>simp [intOf];omega)
   ·obtain rfl:k=m:=by omega
    have O:=Lh hown
    have B4:=Lh hb
    clear hown hb
    go_wp2
    go_ret
    have htk:∀ (at_:Int) (q:List Txt),(writesP at_ q k).take k=writesP at_ q k:=fun at_ q=>List.take_of_length_le (by unfold writesP;rw [someP_len];exact Nat.le_refl _)
    rw [htk] at O
    exact ⟨A9,c9,rfl,O.out,B.out.trans (B4.out.mono (Nat.le_refl _))⟩
 ·have hs1:(s == 0)=false:=beq_eq_false_iff_ne.2 h0
  rw [if_neg h0,Int.zero_mul,Int.add_zero]
  subst hl
  go_enter Tryz.func139,Tryz.ntmps139
  go_wp2_with fail
  refine (CT.out _ X.out.dsk).mono ?_
  rintro e w2 ⟨rfl,hb⟩
  have B:=Lh (B.out.trans (hb.mono B.out.size))
  have X:=Lh (X.out.below hb)
  have HA:=Lh (HA.out.below hb)
  clear hb c0 c1
  obtain ⟨c0,c1⟩:=X.out.cells
  have PT:=Lh (rparts_any (v + 1) ⟨by omega,hv2⟩ Ab nb cb b m hm4 w2 HA.out hnb HBY.out HSP.out)
  go_wp2_with fail
  refine PT.out.mono ?_
  rintro e w3 ⟨A14,c14,rfl,hO14,hb⟩
  have T14:=Lh (hO14.lower B.out.size)
  have B:=Lh (B.out.trans (hb.mono B.out.size))
  have X:=Lh (X.out.below hb)
  clear hb c0 c1 hO14 PT
  obtain ⟨c0,c1⟩:=X.out.cells
  go_wp2_with fail
  refine (SL.out _ X.out.dsk).mono ?_
  rintro e w4 ⟨rfl,hb⟩
  have B:=Lh (B.out.trans (hb.mono B.out.size))
  have T14:=Lh (T14.out.below hb)
  have HSW:=Lh B.out.size
  have TB:=Lh (fun k=>Texts.byte_at (Texts.of_own T14.out) k)
  clear hb c0 c1 X
  go_wp2
  go_loopw [11,10] (fun i o wr=>∃ (k:Nat) (A9:Option Addr) (c9:Nat),k≤m∧i=.int .i64 k∧o=.slice A9 k c9∧OwnPnds wr w.heap.size A9 k c9 ((writesP (a:Int) (textsOf (v + 1) b m) m).take k)∧OwnTexts wr w.heap.size A14 m c14 (textsOf (v + 1) b m)∧Below w.heap.size w4 wr) (fun i _ _=>m - (intOf i).toNat)
  case atStart=>exact ⟨0,none,0,Nat.zero_le _,rfl,rfl,OwnPnds.nil _ _,T14.out,Below.refl _ _⟩
  case round =>
   obtain ⟨k,A9,c9,hk,rfl,rfl,hown,htx,hb⟩:=hrel
   by_cases hkm:k < m
   ·have hki:(k:Int) < (m:Int):=by omega
    have hwk:wrap64 ((a:Int) + (k:Int))=(a:Int) + (k:Int):=by unfold wrap64;omega
    have TX:=Lh htx
    obtain ⟨vs1,hv1,hl1,hy1,hi1⟩:=htx
    obtain ⟨A1,n1,c1,hx1,ho1⟩:=hi1 k hkm
    obtain ⟨b1,e1,hlt1,hcc⟩:=owns_cell1 hv1 hx1
    subst e1
    have HA1:=Lh ho1
    have O:=Lh hown
    have B4:=Lh hb
    have hsw:=HSW.out
    have HNX:=Lh (show (writesP (a:Int) (textsOf (v + 1) b m) m).take (k + 1)=(writesP (a:Int) (textsOf (v + 1) b m) m).take k ++ [((a:Int) + (k:Int),(textsOf (v + 1) b m).getD k [])] by
     rw [take_snoc (by unfold writesP;rw [someP_len];exact hkm) ((0,[]):Pnd)]
     unfold writesP
     rw [someP_at hkm,if_pos hkm])
    clear hown hb hv1 hl1 hy1 hi1 hx1 ho1 hlt1
    go_wp2_with (at_builtin;go_must (refine wpList_pnd w4 _ rfl (.tmp 33) (.tmp 42) rfl w.heap.size A9 k c9 ((writesP (a:Int) (textsOf (v + 1) b m) m).take k) rfl O.out A1 n1 c1 ((a:Int) + (k:Int)) ((textsOf (v + 1) b m).getD k []) (TB.out k) HA1.out rfl (by omega) B4.out hsw ?_);intro g9 c9' w9 ho9 hb9 hg9;have O9:=Lh ho9;have B9:=Lh hb9;have TX9:=Lh ((TX.out.below ((Below.refl _ _).alloc (Nat.le_refl _) _)).pnd (O.out.below ((Below.refl _ _).alloc (Nat.le_refl _) _)) hg9);clear ho9 hb9 hg9)
    go_roundw
    case rel=>exact ⟨k + 1,some ⟨g9,0,none⟩,c9',by omega,by go_num,rfl,by rw [HNX.out];exact O9.out,TX9.out,B9.out⟩
    all_goals (try case measure=>simp [intOf];omega)
   ·obtain rfl:k=m:=by omega
    have O:=Lh hown
    have B4:=Lh hb
    clear hown hb
    go_wp2
    go_ret
    have htk:∀ (at_:Int) (q:List Txt),(writesP at_ q k).take k=writesP at_ q k:=fun at_ q=>List.take_of_length_le (by unfold writesP;rw [someP_len];exact Nat.le_refl _)
    rw [htk] at O
    exact ⟨A9,c9,rfl,O.out,B.out.trans (B4.out.mono (Nat.le_refl _))⟩
theorem rplanned_any (A:Option Addr) (n c:Nat) (A':Option Addr) (n' c':Nat) (S:List Sec) (C:List Pnd) (a m:Nat) (Ab:Option Addr) (nb cb:Nat) (b:Txt) (w:World) (hq:Dsk w A n c A' n' c' S C) (hs:SmallD S C) (hmay:mayD S C=true) (hm1:1≤m) (hm4:m≤4) (han:a + 2 * m≤n)
  (hb:Arg w .u8 Ab nb cb b) (hby:∀ z ∈ b,isByte z) (hnb:nb≤1000) (hsp:∀ a,Ab=some a→a.spot=none∨cb=0) :
  Calls Tryz.prog 139 #[diskV A n c A' n' c',.int .i64 (a:Int),.int .i64 (m:Int),.slice Ab nb cb] w fun e w'=>∃ A9 c9,e=.returned (.slice A9 m c9) ∧
   Pnds w' A9 m c9 (writesP ((a:Int) + hF m (optsOf S C a (2 * m)) * (m:Int)) (textsOf (countTo (optsOf S C a (2 * m)) (2 * m) + 1) b m) m)∧Below w.heap.size w w':=by
 refine (rplanned_own A n c A' n' c' S C a m Ab nb cb b w hq hs hmay hm1 hm4 han hb hby hnb hsp).mono ?_
 rintro e w' ⟨A9,c9,h1,h2,h3⟩
 exact ⟨A9,c9,h1,Pnds.of_own h2,h3⟩
def RPlan (w:World) (L:List Pnd) (E:Int) (e:Ending) (w':World):Prop :=
 ∃ A c,e=.returned (.tuple #[.slice A L.length c,.int .i64 E])∧Pnds w' A L.length c L∧Below w.heap.size w w'
theorem RPlan.none (w:World) (L:List Pnd) (E:Int) (w':World) (hL:L=[]) (hb:Below w.heap.size w w'):RPlan w L E (.returned (.tuple #[.slice none 0 0,.int .i64 E])) w':=by
 subst hL
 exact ⟨Option.none,0,rfl,Pnds.nil _,hb⟩
theorem rplan6_any (A:Option Addr) (n c:Nat) (A':Option Addr) (n' c':Nat) (S:List Sec) (C:List Pnd) (at_ wd:Int) (Ab:Option Addr) (nb cb:Nat) (b:Txt) (w:World) (hq:Dsk w A n c A' n' c' S C) (hs:SmallD S C)
  (hb:Arg w .u8 Ab nb cb b) (hby:∀ z ∈ b,isByte z) (hnb:nb≤1000) (hsp:∀ a,Ab=some a→a.spot=none∨cb=0) :
  Calls Tryz.prog 95 #[diskV A n c A' n' c',.int .i64 at_,.int .i64 wd,.slice Ab nb cb] w (RPlan w (cpL S C at_ wd b) (cpE S C at_ wd b)):=by
 have CK:=Lh (fun wx hx=>rcheck6_any A n c A' n' c' S C at_ wd wx hx hs)
 have hb0:Below w.heap.size w (w.alloc (.cells #[.slice A n c,.slice A' n' c'] 25)):=(Below.refl _ _).alloc (Nat.le_refl _) _
 have X:=Lh (DBox.new hq)
 have HA:=Lh (hb.below hb0)
 have B:=Lh hb0
 have hbl:=hb.len
 obtain ⟨c0,c1⟩:=X.out.cells
 by_cases hE:cellE S C at_ wd=0
 ·obtain ⟨hmay,a,m,rfl,rfl,hm1,hm4,han⟩:=cellE_zero hE
  have hsl:=hq.secs.len
  have BZ:=Lh (fun wx hx=>rbusy6_any A n c A' n' c' S C a m wx hx hs hmay hm4 (by omega))
  have CT:=Lh (fun wx hx=>rcount6_any A n c A' n' c' S C a m wx hx hs hmay hm4 (by omega))
  have PD:=Lh (fun (_:countTo (optsOf S C a (2 * m)) (2 * m)≠4294967295) wx hx (hb:Arg wx .u8 Ab nb cb b)=>rplanned_any A n c A' n' c' S C a m Ab nb cb b wx hx hs hmay hm1 hm4 (by omega) hb hby hnb hsp)
  have hcp:cpE S C a m b=if 24 * (m:Int) < (b.length:Int) then 4 else if busyTo S C a (2 * m)=true then 60 else if countTo (optsOf S C a (2 * m)) (2 * m)=4294967295 then 9 else 0:=by unfold cpE;rw [if_pos hE,Int.toNat_natCast]
  have hL:cpE S C a m b≠0→cpL S C a m b=[]:=fun h=>if_neg h
  have hcl0:cpE S C a m b=0→cpL S C a m b=writesP ((a:Int) + hF m (optsOf S C a (2 * m)) * (m:Int)) (textsOf (countTo (optsOf S C a (2 * m)) (2 * m) + 1) b m) m:=fun h=>by unfold cpL cpT;rw [if_pos h,Int.toNat_natCast]
  rw [hE] at CK
  obtain ⟨L,hLL⟩:∃ L,L=cpL S C a m b:=⟨_,rfl⟩
  rw [← hLL] at hL hcl0 ⊢
  have hw24:wrap64 (24 * (m:Int))=24 * (m:Int):=by unfold wrap64;omega
  rw [hbl] at hcp
  clear hq hs hb hby hb0 hsp hbl hE hLL hmay han hsl
  by_cases h1:24 * (m:Int) < (nb:Int)
  ·rw [if_pos h1] at hcp
   rw [hcp] at hL ⊢
   clear hcp hcl0
   go_enter Tryz.func95,Tryz.ntmps95
   go_wp2_with fail
   refine (CK.out _ X.out.dsk).mono ?_
   rintro e w1 ⟨rfl,hb⟩
   have B:=Lh (B.out.trans (hb.mono B.out.size))
   have X:=Lh (X.out.below hb)
   have HA:=Lh (HA.out.below hb)
   clear hb c0 c1
   obtain ⟨c0,c1⟩:=X.out.cells
   go_wp2
   go_ret2
   exact RPlan.none _ _ _ _ (hL (by decide)) B.out
  rw [if_neg h1] at hcp
  obtain ⟨z,hz⟩:∃ z,z=busyTo S C a (2 * m):=⟨_,rfl⟩
  rw [← hz] at BZ hcp
  clear hz
  cases z with
  | true =>
   rw [if_pos rfl] at hcp
   rw [hcp] at hL ⊢
   clear hcp hcl0
   go_enter Tryz.func95,Tryz.ntmps95
   go_wp2_with fail
   refine (CK.out _ X.out.dsk).mono ?_
   rintro e w1 ⟨rfl,hb⟩
   have B:=Lh (B.out.trans (hb.mono B.out.size))
   have X:=Lh (X.out.below hb)
   have HA:=Lh (HA.out.below hb)
   clear hb c0 c1
   obtain ⟨c0,c1⟩:=X.out.cells
   go_wp2_with fail
   refine (BZ.out _ X.out.dsk).mono ?_
   rintro e w2 ⟨rfl,hb⟩
   have B:=Lh (B.out.trans (hb.mono B.out.size))
   have X:=Lh (X.out.below hb)
   have HA:=Lh (HA.out.below hb)
   clear hb c0 c1
   obtain ⟨c0,c1⟩:=X.out.cells
   go_wp2
   go_ret2
   exact RPlan.none _ _ _ _ (hL (by decide)) B.out
  | false =>
   rw [if_neg (by decide)] at hcp
   obtain ⟨v,hv⟩:∃ z,z=countTo (optsOf S C a (2 * m)) (2 * m):=⟨_,rfl⟩
   rw [← hv] at CT hcp hcl0
   by_cases h2:v=4294967295
   ·rw [if_pos h2] at hcp
    rw [hcp] at hL ⊢
    subst h2
    clear hcp hcl0 hv
    go_enter Tryz.func95,Tryz.ntmps95
    go_wp2_with fail
    refine (CK.out _ X.out.dsk).mono ?_
    rintro e w1 ⟨rfl,hb⟩
    have B:=Lh (B.out.trans (hb.mono B.out.size))
    have X:=Lh (X.out.below hb)
    have HA:=Lh (HA.out.below hb)
    clear hb c0 c1
    obtain ⟨c0,c1⟩:=X.out.cells
    go_wp2_with fail
    refine (BZ.out _ X.out.dsk).mono ?_
    rintro e w2 ⟨rfl,hb⟩
    have B:=Lh (B.out.trans (hb.mono B.out.size))
    have X:=Lh (X.out.below hb)
    have HA:=Lh (HA.out.below hb)
    clear hb c0 c1
    obtain ⟨c0,c1⟩:=X.out.cells
    go_wp2_with fail
    refine (CT.out _ X.out.dsk).mono ?_
    rintro e w3 ⟨rfl,hb⟩
    have B:=Lh (B.out.trans (hb.mono B.out.size))
    have X:=Lh (X.out.below hb)
    have HA:=Lh (HA.out.below hb)
    clear hb c0 c1
    obtain ⟨c0,c1⟩:=X.out.cells
    go_wp2
    go_ret2
    exact RPlan.none _ _ _ _ (hL (by decide)) B.out
   rw [if_neg h2] at hcp
   rw [hcp] at hL ⊢
   rw [hcl0 hcp]
   have PD:=Lh (PD.out (by rw [← hv];exact h2))
   rw [← hv] at PD
   have hv1:(v == 4294967295)=false:=beq_eq_false_iff_ne.2 h2
   clear hcp hcl0 hv hL
   go_enter Tryz.func95,Tryz.ntmps95
   go_wp2_with fail
   refine (CK.out _ X.out.dsk).mono ?_
   rintro e w1 ⟨rfl,hb⟩
   have B:=Lh (B.out.trans (hb.mono B.out.size))
   have X:=Lh (X.out.below hb)
   have HA:=Lh (HA.out.below hb)
   clear hb c0 c1
   obtain ⟨c0,c1⟩:=X.out.cells
   go_wp2_with fail
   refine (BZ.out _ X.out.dsk).mono ?_
   rintro e w2 ⟨rfl,hb⟩
   have B:=Lh (B.out.trans (hb.mono B.out.size))
   have X:=Lh (X.out.below hb)
   have HA:=Lh (HA.out.below hb)
   clear hb c0 c1
   obtain ⟨c0,c1⟩:=X.out.cells
   go_wp2_with fail
   refine (CT.out _ X.out.dsk).mono ?_
   rintro e w3 ⟨rfl,hb⟩
   have B:=Lh (B.out.trans (hb.mono B.out.size))
   have X:=Lh (X.out.below hb)
   have HA:=Lh (HA.out.below hb)
   clear hb c0 c1
   obtain ⟨c0,c1⟩:=X.out.cells
   go_wp2_with fail
   refine (PD.out _ X.out.dsk HA.out).mono ?_
   rintro e w5 ⟨A9,c9,rfl,hp,hb⟩
   have B:=Lh (B.out.trans (hb.mono B.out.size))
   have HP:=Lh hp
   clear hb hp c0 c1
   go_wp2
   go_ret2
   have hln:(writesP ((a:Int) + hF m (optsOf S C a (2 * m)) * (m:Int)) (textsOf (v + 1) b m) m).length=m:=someP_len _ _ _ _
   exact ⟨A9,c9,by rw [hln];rfl,by rw [hln];exact HP.out,B.out⟩
 ·have e1:cpE S C at_ wd b=cellE S C at_ wd:=by unfold cpE;rw [if_neg hE]
  have e2:cpL S C at_ wd b=[]:=by unfold cpL;rw [e1,if_neg hE]
  rw [e1,e2]
  obtain ⟨E,hEE⟩:∃ E,E=cellE S C at_ wd:=⟨_,rfl⟩
  rw [← hEE] at CK hE ⊢
  have hne:(E != 0)=true:=bne_iff_ne.2 hE
  clear e1 e2 hEE hE hq hs hb0 hb hby hsp hbl
  go_enter Tryz.func95,Tryz.ntmps95
  go_wp2_with fail
  refine (CK.out _ X.out.dsk).mono ?_
  rintro e w1 ⟨rfl,hb⟩
  have B:=Lh (B.out.trans (hb.mono B.out.size))
  have X:=Lh (X.out.below hb)
  have HA:=Lh (HA.out.below hb)
  clear hb c0 c1
  obtain ⟨c0,c1⟩:=X.out.cells
  go_wp2
  go_ret2
  exact RPlan.none _ _ _ _ rfl B.out
theorem of_any (A:Option Addr) (n c:Nat) (t:Txt) (w:World) (ht:Arg w .u8 A n c t) (hby:∀ z ∈ t,isByte z):Calls Tryz.prog 100 #[.slice A n c] w (OfOut w t):=by
 by_cases h:n=14
 ·subst h
  by_cases k:t.getD 0 0=1∧t.getD 13 0≤3
  ·exact of_full A c t w ht hby k
  ·exact of_head A c t w ht k
 ·exact of_short A n c t w ht h
theorem tab_three {t:List Rc} (h:mayTab t):t.length≤3:=by
 have H:=(mayTab_idx t).1 h
 have G:∀ y:Nat,y < t.length→(y:Int)≤(t.getD y zR).p:=by
  intro y
  induction y with
  | zero=>intro hy;have:=(H 0 hy).1.1;omega
  | succ k ih =>
   intro hy
   have h1:=ih (by omega)
   have h2:=(H (k + 1) hy).2 (Nat.succ_pos _)
   rw [Nat.add_sub_cancel] at h2
   omega
 rcases Nat.lt_or_ge 3 t.length with k | k
 ·have h1:=G 3 k
  have h2:=(H 3 k).1
  have h3:=h2.1.2.1
  omega
 ·exact k
def PutOut (w:World) (x:Option (List Rc)) (e:Ending) (w':World):Prop:=∃ A' c',e=.returned (.tuple #[.slice A' (ansL x).length c',.int .i64 (ansE x)])∧OwnRecs w' w.heap.size A' (ansL x).length c' (ansL x)∧Below w.heap.size w w'
theorem rput_no (A:Option Addr) (n c:Nat) (t:List Rc) (A':Option Addr) (n' c':Nat) (b:Txt) (w:World) (ht:Recs w A n c t) (hn:n≤100000) (hm:¬ mayTab t) :
  Calls Tryz.prog 55 #[.slice A n c,.slice A' n' c'] w (PutOut w (putR t b)):=by
 have HO:=Lh (show putR t b=none from if_neg hm)
 have M:=rmayAll_any A n c t w ht hn
 rw [decide_eq_false hm] at M
 have M:=Lh M
 clear ht hm
 go_enter Tryz.func55,Tryz.ntmps55
 go_wp2_with fail
 refine M.out.mono ?_
 rintro e w1 ⟨rfl,hb⟩
 have B:=Lh hb
 clear hb
 go_wp2
 go_ret2
 rw [HO.out]
 exact ⟨none,0,rfl,OwnRecs.nil _ _,B.out⟩
theorem rput_yes (A:Option Addr) (n c:Nat) (t:List Rc) (A':Option Addr) (n' c':Nat) (b:Txt) (w:World) (ht:Recs w A n c t) (hm:mayTab t) (hb:Arg w .u8 A' n' c' b) (hby:∀ z ∈ b,isByte z) :
  Calls Tryz.prog 55 #[.slice A n c,.slice A' n' c'] w (PutOut w (putR t b)):=by
 have hn:n≤3:=by have:=tab_three hm;rw [ht.len] at this;exact this
 have M:=rmayAll_any A n c t w ht (by omega)
 rw [decide_eq_true hm] at M
 have M:=Lh M
 have TR:=Lh ht
 rw [show putR t b=putN t b from if_pos hm]
 have hlen:=hb.len
 have OF:=Lh (fun wx (hx:Below w.heap.size w wx)=>of_any A' n' c' b wx (hb.below hx) hby)
 have RAW:=Lh (fun (k:isN b)=>raw_is k.1 hby)
 by_cases hg:isGo b
 ·have HX:=Lh (show putN t b=some (outR t (b.getD 1 0)) from if_pos hg)
  obtain ⟨g0,g1,g2⟩:=hg
  have hn2:n'=2:=by omega
  subst hn2
  obtain ⟨bb,o,rfl,hc⟩:=hb.at_ (by decide)
  have HC:=Lh (fun wx (hx:Below w.heap.size w wx)=>(hb.below hx).at_ (by decide))
  have hy1:=hby (b.getD 1 0) (by rw [gtD,geE (show 1 < b.length by omega)];exact List.getElem_mem _)
  obtain ⟨x1,hx1⟩:∃ x,x=b.getD 1 0:=⟨_,rfl⟩
  rw [← hx1] at g2 hy1 HX
  have hy:0≤x1:=hy1.1
  have hw1:IntKind.i64.wrap x1=x1:=by rw [IntKind.wrap_i64];omega
  have G0:=Lh g1
  have X1:=Lh hx1
  clear hc hm ht hb hby hlen g0 g1 hx1 hy1 OF RAW
  go_enter Tryz.func55,Tryz.ntmps55
  go_wp2_with fail
  refine M.out.mono ?_
  rintro e w1 ⟨rfl,hbm⟩
  have BM:=Lh hbm
  obtain ⟨b2,o2,eb,hc2⟩:=HC.out _ hbm
  injection eb with eb;injection eb with eb1 eb2 _;subst eb1;subst eb2
  have t0:=hc2 0 (by decide)
  have t1:=hc2 1 (by decide)
  rw [Nat.add_zero,G0.out] at t0
  rw [← X1.out] at t1
  have WO:=Lh (rout_any A n c t x1 w1 (TR.out.below hbm) (by omega))
  clear hc2 hbm
  go_wp2_with fail
  refine WO.out.mono ?_
  rintro e w2 ⟨A2,c2,rfl,hO,hB⟩
  go_wp2
  go_ret2
  rw [HX.out]
  exact ⟨A2,c2,rfl,hO.lower BM.out.size,BM.out.trans (hB.mono BM.out.size)⟩
 ·have PN:=Lh (fun (k:isN b)=>(show putN t b=some (withR t (rawR b)) from (if_neg hg).trans (if_pos k)))
  have PZ:=Lh (fun (k:¬ isN b)=>(show putN t b=none from (if_neg hg).trans (if_neg k)))
  by_cases h2:n'=2
  ·subst h2
   obtain ⟨bb0,o,rfl,hc⟩:=hb.at_ (by decide)
   have HC:=Lh (fun wx (hx:Below w.heap.size w wx)=>(hb.below hx).at_ (by decide))
   have hy1:=hby (b.getD 1 0) (by rw [gtD,geE (show 1 < b.length by omega)];exact List.getElem_mem _)
   obtain ⟨x0,hx0⟩:∃ x,x=b.getD 0 0:=⟨_,rfl⟩
   obtain ⟨x1,hx1⟩:∃ x,x=b.getD 1 0:=⟨_,rfl⟩
   have hng:¬ (x0=2∧x1 < 3):=fun k=>hg ⟨hlen,by rw [← hx0];exact k.1,by rw [← hx1];exact k.2⟩
   rw [← hx1] at hy1
   have hy:0≤x1:=hy1.1
   have hw1:IntKind.i64.wrap x1=x1:=by rw [IntKind.wrap_i64];have:=hy1.2;omega
   have X0:=Lh hx0
   have X1:=Lh hx1
   clear hc hm ht hb hby hlen hx1 hy1 hx0 hg
   by_cases hz:x0=2
   ·subst hz
    have h3:¬ x1 < 3:=fun k=>hng ⟨rfl,k⟩
    clear hng
    go_enter Tryz.func55,Tryz.ntmps55
    go_wp2_with fail
    refine M.out.mono ?_
    rintro e w1 ⟨rfl,hbm⟩
    have BM:=Lh hbm
    obtain ⟨b2,o2,eb,hc2⟩:=HC.out _ hbm
    injection eb with eb;injection eb with eb1 eb2 _;subst eb1;subst eb2
    have t0:=hc2 0 (by decide)
    have t1:=hc2 1 (by decide)
    rw [Nat.add_zero,← X0.out] at t0
    rw [← X1.out] at t1
    clear hc2 hbm
    go_wp2_with fail
    refine (OF.out _ BM.out).mono ?_
    rintro e w2 ⟨⟨hk,rfl⟩ | ⟨hk,s,rfl⟩,hb2⟩
    ·have hx:=PN.out hk
     have HX:=Lh hx
     have HR:=Lh (RAW.out hk)
     have B2:=Lh (BM.out.trans (hb2.mono BM.out.size))
     obtain ⟨r,hr⟩:∃ r,r=rawR b:=⟨_,rfl⟩
     rw [← hr] at HX HR ⊢
     clear hx hk hb2 hr PN PZ RAW OF
     obtain ⟨p,bb,ee,l,h,f,q,a⟩:=r
     obtain ⟨X0,hbx⟩:=rec_box w2 ⟨p,bb,ee,l,h,f,q,a⟩
     obtain ⟨c0,c1,c2,c3,c4,c5,c6,c7⟩:=X0.rec
     have B3:=Lh (B2.out.trans (hbx.mono B2.out.size))
     have WI:=Lh (rwith11_any A n c t ⟨p,bb,ee,l,h,f,q,a⟩ _ (TR.out.below B3.out) HR.out (by omega))
     clear X0 hbx
     go_wp2_with fail
     refine WI.out.mono ?_
     rintro e w4 ⟨A2,c2,rfl,hO,hB⟩
     go_wp2
     go_ret2
     rw [HX.out]
     exact ⟨A2,c2,rfl,hO.lower B3.out.size,B3.out.trans (hB.mono B3.out.size)⟩
    ·have HX:=Lh (PZ.out hk)
     have B2:=Lh (BM.out.trans (hb2.mono BM.out.size))
     clear hk hb2 PN PZ RAW OF
     obtain ⟨p,bb,ee,l,h,f,q,a⟩:=s
     go_wp2
     go_ret2
     rw [HX.out]
     exact ⟨none,0,rfl,OwnRecs.nil _ _,by first | exact B2.out | exact B2.out.alloc B2.out.size _⟩
   ·have hzb:(x0 == 2)=false:=by simpa using hz
    clear hng hz
    go_enter Tryz.func55,Tryz.ntmps55
    go_wp2_with fail
    refine M.out.mono ?_
    rintro e w1 ⟨rfl,hbm⟩
    have BM:=Lh hbm
    obtain ⟨b2,o2,eb,hc2⟩:=HC.out _ hbm
    injection eb with eb;injection eb with eb1 eb2 _;subst eb1;subst eb2
    have t0:=hc2 0 (by decide)
    rw [Nat.add_zero,← X0.out] at t0
    clear hc2 hbm
    go_wp2_with fail
    refine (OF.out _ BM.out).mono ?_
    rintro e w2 ⟨⟨hk,rfl⟩ | ⟨hk,s,rfl⟩,hb2⟩
    ·have hx:=PN.out hk
     have HX:=Lh hx
     have HR:=Lh (RAW.out hk)
     have B2:=Lh (BM.out.trans (hb2.mono BM.out.size))
     obtain ⟨r,hr⟩:∃ r,r=rawR b:=⟨_,rfl⟩
     rw [← hr] at HX HR ⊢
     clear hx hk hb2 hr PN PZ RAW OF
     obtain ⟨p,bb,ee,l,h,f,q,a⟩:=r
     obtain ⟨X0,hbx⟩:=rec_box w2 ⟨p,bb,ee,l,h,f,q,a⟩
     obtain ⟨c0,c1,c2,c3,c4,c5,c6,c7⟩:=X0.rec
     have B3:=Lh (B2.out.trans (hbx.mono B2.out.size))
     have WI:=Lh (rwith11_any A n c t ⟨p,bb,ee,l,h,f,q,a⟩ _ (TR.out.below B3.out) HR.out (by omega))
     clear X0 hbx
     go_wp2_with fail
     refine WI.out.mono ?_
     rintro e w4 ⟨A2,c2,rfl,hO,hB⟩
     go_wp2
     go_ret2
     rw [HX.out]
     exact ⟨A2,c2,rfl,hO.lower B3.out.size,B3.out.trans (hB.mono B3.out.size)⟩
    ·have HX:=Lh (PZ.out hk)
     have B2:=Lh (BM.out.trans (hb2.mono BM.out.size))
     clear hk hb2 PN PZ RAW OF
     obtain ⟨p,bb,ee,l,h,f,q,a⟩:=s
     go_wp2
     go_ret2
     rw [HX.out]
     exact ⟨none,0,rfl,OwnRecs.nil _ _,by first | exact B2.out | exact B2.out.alloc B2.out.size _⟩
  ·have hnb:((n':Int) == 2)=false:=by simp;omega
   clear hm ht hb hby hlen hg h2
   go_enter Tryz.func55,Tryz.ntmps55
   go_wp2_with fail
   refine M.out.mono ?_
   rintro e w1 ⟨rfl,hbm⟩
   have BM:=Lh hbm
   clear hbm
   go_wp2_with fail
   refine (OF.out _ BM.out).mono ?_
   rintro e w2 ⟨⟨hk,rfl⟩ | ⟨hk,s,rfl⟩,hb2⟩
   ·have hx:=PN.out hk
    have HX:=Lh hx
    have HR:=Lh (RAW.out hk)
    have B2:=Lh (BM.out.trans (hb2.mono BM.out.size))
    obtain ⟨r,hr⟩:∃ r,r=rawR b:=⟨_,rfl⟩
    rw [← hr] at HX HR ⊢
    clear hx hk hb2 hr PN PZ RAW OF
    obtain ⟨p,bb,ee,l,h,f,q,a⟩:=r
    obtain ⟨X0,hbx⟩:=rec_box w2 ⟨p,bb,ee,l,h,f,q,a⟩
    obtain ⟨c0,c1,c2,c3,c4,c5,c6,c7⟩:=X0.rec
    have B3:=Lh (B2.out.trans (hbx.mono B2.out.size))
    have WI:=Lh (rwith11_any A n c t ⟨p,bb,ee,l,h,f,q,a⟩ _ (TR.out.below B3.out) HR.out (by omega))
    clear X0 hbx
    go_wp2_with fail
    refine WI.out.mono ?_
    rintro e w4 ⟨A2,c2,rfl,hO,hB⟩
    go_wp2
    go_ret2
    rw [HX.out]
    exact ⟨A2,c2,rfl,hO.lower B3.out.size,B3.out.trans (hB.mono B3.out.size)⟩
   ·have HX:=Lh (PZ.out hk)
    have B2:=Lh (BM.out.trans (hb2.mono BM.out.size))
    clear hk hb2 PN PZ RAW OF
    obtain ⟨p,bb,ee,l,h,f,q,a⟩:=s
    go_wp2
    go_ret2
    rw [HX.out]
    exact ⟨none,0,rfl,OwnRecs.nil _ _,by first | exact B2.out | exact B2.out.alloc B2.out.size _⟩
theorem rput11_any (A:Option Addr) (n c:Nat) (t:List Rc) (A':Option Addr) (n' c':Nat) (b:Txt) (w:World) (ht:Recs w A n c t) (hn:n≤100000) (hb:Arg w .u8 A' n' c' b) (hby:∀ z ∈ b,isByte z) :
  Calls Tryz.prog 55 #[.slice A n c,.slice A' n' c'] w (PutOut w (putR t b)):=by
 by_cases hm:mayTab t
 ·exact rput_yes A n c t A' n' c' b w ht hm hb hby
 ·exact rput_no A n c t A' n' c' b w ht hn hm
theorem rrows11_any (A:Option Addr) (n c:Nat) (t:List Rc) (w:World) (ht:Recs w A n c t) (hm:mayTab t) :
  Calls Tryz.prog 103 #[.slice A n c] w fun e w'=>∃ A' c',e=.returned (.slice A' n c')∧OwnTexts w' w.heap.size A' n c' (t.map recT)∧Below w.heap.size w w':=by
 obtain ⟨i1,hi1,hy0,hy1,hy2⟩:=info_parts texts_info
 have hml:(1000:Nat)≤maxLen:=by decide
 have hlen:=ht.len
 have hn:n≤3:=by have:=tab_three hm;rw [hlen] at this;exact this
 have HT:=Lh ht
 have MAY:=Lh (fun k (hk:k < n)=>((mayTab_idx t).1 hm k (by rw [hlen];exact hk)).1)
 have TF:=Lh (show (t.map recT).take n=t.map recT by rw [← hlen,← List.length_map (f:=recT),List.take_length])
 have TS:=Lh (fun k (hk:k < n)=>show (t.map recT).take (k + 1)=(t.map recT).take k ++ [recT (t.getD k zR)] by
  rw [List.take_succ_eq_append_getElem (by rw [List.length_map,hlen];exact hk)]
  simp [List.getD_eq_getElem?_getD,show k < t.length by rw [hlen];exact hk])
 obtain ⟨Z,hZ⟩:∃ Z,Z=t.map recT:=⟨_,rfl⟩
 rw [← hZ] at TF TS ⊢
 clear ht hm hlen hZ
 go_enter Tryz.func103,Tryz.ntmps103
 go_wp2
 go_loopw [3,4] (fun v i wr=>∃ k:Nat,k≤n∧i=.int .i64 k∧(∃ A' c',v=.slice A' k c'∧OwnTexts wr w.heap.size A' k c' (Z.take k))∧Below w.heap.size w wr) (fun _ i _=>n - (intOf i).toNat)
 case atStart=>exact ⟨0,Nat.zero_le _,rfl,⟨none,0,rfl,OwnTexts.nil _ _⟩,Below.refl _ _⟩
 case round =>
  obtain ⟨k,hk,rfl,⟨A1,c1,rfl,hown⟩,hbel⟩:=hrel
  by_cases hkn:k < n
  ·have HW:=HT.out.below hbel
   obtain ⟨b,o,rfl,hlt,d0,d1,d2,d3,d4,d5,d6,d7⟩:=HW.row hkn
   have his:=HW.is_at hkn
   have hmy:=MAY.out k hkn
   have hst:=TS.out k hkn
   obtain ⟨r,hr⟩:∃ r,r=t.getD k zR:=⟨_,rfl⟩
   rw [← hr] at d0 d1 d2 d3 d4 d5 d6 d7 his hmy hst
   obtain ⟨Q,hQ⟩:∃ Q,Q=Z.take k:=⟨_,rfl⟩
   rw [← hQ] at hown hst
   have HST:=Lh hst
   have O:=Lh hown
   have B:=Lh hbel
   have RW:=Lh (rrow11_any r wr his hmy)
   clear hr hQ hown hbel his hmy hst HW
   go_wp2_with fail
   refine RW.out.mono ?_
   rintro e w2 ⟨A2,c2,rfl,hown2,hb2⟩
   have O2:=Lh (owns_base hown2 B.out.size)
   have O1:=Lh (O.out.below hb2)
   have B2:=Lh (B.out.trans (hb2.mono B.out.size))
   clear hown2 hb2 d0 d1 d2 d3 d4 d5 d6 d7
   go_wp2_with (at_builtin;(refine wpList_text w _ rfl (.tmp 11) (.tmp 17) _ rfl i1 _ Tryz.underlying103 hi1 hy0 hy1 hy2 rfl w.heap.size A1 k c1 Q rfl O1.out A2 14 c2 (recT r) (recT_byte r) O2.out rfl (by omega) (by omega) B2.out (Nat.le_refl _) ?_);intro A3 c3 w3 hown3 hbel3;have O3:=Lh hown3;have B3:=Lh hbel3;clear hown3 hbel3)
   go_roundw
   case rel=>exact ⟨k + 1,by omega,by go_num,⟨A3,c3,rfl,by rw [HST.out];exact O3.out⟩,B3.out⟩
   case measure=>simp [intOf];omega
  ·obtain rfl:k=n:=by omega
   rw [TF.out] at hown
   have O:=Lh hown
   have B:=Lh hbel
   clear hown hbel
   go_wp2
   go_ret
   exact ⟨A1,c1,rfl,O.out,B.out⟩
def NotesOut (w:World) (x:List Txt) (E:Int) (e:Ending) (w':World):Prop:=∃ A' c',e=.returned (.tuple #[.slice A' x.length c',.int .i64 E])∧OwnTexts w' w.heap.size A' x.length c' x∧Below w.heap.size w w'
end Go.Proofs.YtifgcfepbenpjaaGreat
