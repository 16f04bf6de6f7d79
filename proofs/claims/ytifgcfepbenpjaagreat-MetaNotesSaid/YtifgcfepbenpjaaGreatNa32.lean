/- Texts of layers 1 to 12, joined. -/
import Derived.Test.YtifgcfepbenpjaaGreatNa27
import Derived.Test.YtifgcfepbenpjaaGreatNa31
import Derived.BigQuiet
set_option maxRecDepth 100000
set_option maxHeartbeats 12800000
set_option linter.unusedVariables false
namespace Go.Proofs.YtifgcfepbenpjaaGreat
open Go.RowKit
theorem splan_any (P T A M W Q:Int) (D:Option Addr) (n c:Nat) (D':Option Addr) (n' c':Nat) (S:List Sec) (C:List Pnd) (v a g:Int) (w:World) (hq:Dsk w D n c D' n' c' S C) (hs:SmallD S C) (hi:isS (v,a,g)) :
  Calls Tryz.prog 120 #[cfgV P T A M W Q,diskV D n c D' n' c',supV v a g] w (PlanOut w (spL P T A M W Q S C (v,a,g)) (spE P T A M W Q S C (v,a,g))):=by
 obtain ⟨x,hbel⟩:=SBox.new P T A M W Q v a g hq
 obtain ⟨w0,hw0⟩:∃ x:World,x=((w.alloc (.cells #[.int .i64 P,.int .i64 T,.int .i64 A,.int .i64 M,.int .i64 W,.int .i64 Q] 36)).alloc (.cells #[.slice D n c,.slice D' n' c'] 25)).alloc (.cells #[.int .u32 v,.int .i64 a,.int .u64 g] 29):=⟨_,rfl⟩
 rw [← hw0] at x hbel
 have X:=Lh x
 have B:=Lh hbel
 have CK:=Lh (fun wx hx=>tcheck_any P T A M W Q D n c D' n' c' S C wx hx hs)
 obtain ⟨c0,c1,c2,c3,c4,c5,d0,d1,q0,q1,q2⟩:=x.cells
 by_cases hm:mayT P T A M W Q S C
 ·rw [show tcE P T A M W Q S C=0 from if_pos hm] at CK
  have MB:=Lh (fun wx:World=>maybe_any v a g wx)
  by_cases ha:arS a
  ·rw [decide_eq_true ha] at MB
   have hE:spE P T A M W Q S C (v,a,g)=cpE S C 0 1 (suT (v,a,g)):=(if_pos hm).trans (if_pos ha)
   have hL:spL P T A M W Q S C (v,a,g)=cpL S C 0 1 (suT (v,a,g)):=by
    unfold spL cpL
    rw [hE]
    split <;> rfl
   rw [hE,hL]
   have RW:=Lh (fun wx:World=>srow_any v a g hi ha wx)
   have PL:=Lh (fun A0 c0 wx hx hy=>plan_any D n c D' n' c' S C 0 1 A0 13 c0 (suT (v,a,g)) wx hx hs hy (suT_byte _) (by decide))
   unfold PlanOut at PL ⊢
   obtain ⟨t,ht⟩:∃ t,t=suT (v,a,g):=⟨_,rfl⟩
   rw [← ht] at PL RW ⊢
   obtain ⟨L,hL⟩:∃ L,L=cpL S C 0 1 t:=⟨_,rfl⟩
   obtain ⟨E,hE⟩:∃ L,L=cpE S C 0 1 t:=⟨_,rfl⟩
   rw [← hL,← hE] at PL ⊢
   obtain ⟨m,hmm⟩:∃ m,m=L.length:=⟨_,rfl⟩
   rw [← hmm] at PL ⊢
   clear hm ha hq hs hi x hbel ht hL hE hmm
   go_enter Tryz.func120,Tryz.ntmps120
   go_wp2_with fail
   rw [← hw0]
   clear hw0
   refine (CK.out _ X.out.two.dsk.dsk).mono ?_
   rintro e w1 ⟨rfl,hb⟩
   have B:=Lh (B.out.trans (hb.mono B.out.size))
   have X:=Lh (X.out.below hb)
   clear hb CK c0 c1 c2 c3 c4 c5 d0 d1 q0 q1 q2
   obtain ⟨c0,c1,c2,c3,c4,c5,d0,d1,q0,q1,q2⟩:=X.out.cells
   go_wp2_with fail
   refine (MB.out _).mono ?_
   rintro e w2 ⟨rfl,hb⟩
   have B:=Lh (B.out.trans (hb.mono B.out.size))
   have X:=Lh (X.out.below hb)
   clear hb MB c0 c1 c2 c3 c4 c5 d0 d1 q0 q1 q2
   go_upto_region 6 with fail
   have hcur:Below w2.heap.size w2 w2.drew:=below_drewN (Below.refl _ _) 1
   have keepX:∀ wx,Below w2.heap.size w2 wx→wx.cell? ⟨w.heap.size + 1,0,none⟩=some (.slice D n c)∧wx.cell? ⟨w.heap.size + 1,1,none⟩=some (.slice D' n' c')∧wx.cell? ⟨w.heap.size + 2,0,none⟩=some (.int .u32 v)∧wx.cell? ⟨w.heap.size + 2,1,none⟩=some (.int .i64 a)∧wx.cell? ⟨w.heap.size + 2,2,none⟩=some (.int .u64 g):=fun wx hx=>by
    obtain ⟨_,_,_,_,_,_,d0,d1,q0,q1,q2⟩:=(X.out.below hx).cells
    exact ⟨d0,d1,q0,q1,q2⟩
   have hkX:=keepX _ hcur
   go_region_held3 (fun w'=>w'.cell? ⟨w.heap.size + 1,0,none⟩=some (.slice D n c)∧w'.cell? ⟨w.heap.size + 1,1,none⟩=some (.slice D' n' c')∧w'.cell? ⟨w.heap.size + 2,0,none⟩=some (.int .u32 v)∧w'.cell? ⟨w.heap.size + 2,1,none⟩=some (.int .i64 a)∧w'.cell? ⟨w.heap.size + 2,2,none⟩=some (.int .u64 g))
    (first | exact hkX | go_keep)
    (first
     | (go_at_call 156;with_reducible refine (RW.out _).mono ?_;rintro e w3 ⟨AR,cR,rfl,hown,hb⟩;have hcur:=hcur.trans (hb.mono hcur.size);have hkX:=keepX _ hcur)
     | (go_at_call 155;have hM:=hcur.size;with_reducible refine (PL.out AR cR _ (X.out.below hcur).two.dsk.dsk (Arg.own hown)).mono ?_;rintro e w4 ⟨AL,cL,rfl,hownL,hb⟩;have hcur:=hcur.trans (hb.mono hcur.size);have hkX:=keepX _ hcur))
   have OL:=Lh (hownL.lower (Nat.le_trans B.out.size hM))
   have B:=Lh (B.out.trans (hcur.mono B.out.size))
   clear hcur hkX keepX hown hownL hb hM RW PL
   go_wp2
   go_ret2
   exact ⟨AL,cL,rfl,OL.out,B.out⟩
  ·rw [decide_eq_false ha] at MB
   have hE:spE P T A M W Q S C (v,a,g)=2:=(if_pos hm).trans (if_neg ha)
   have hL:spL P T A M W Q S C (v,a,g)=[]:=by
    unfold spL
    rw [hE]
    rfl
   rw [hE,hL]
   clear hm ha hq hs hi x hbel hE hL
   go_enter Tryz.func120,Tryz.ntmps120
   go_wp2_with fail
   rw [← hw0]
   clear hw0
   refine (CK.out _ X.out.two.dsk.dsk).mono ?_
   rintro e w1 ⟨rfl,hb⟩
   have B:=Lh (B.out.trans (hb.mono B.out.size))
   have X:=Lh (X.out.below hb)
   clear hb CK c0 c1 c2 c3 c4 c5 d0 d1 q0 q1 q2
   obtain ⟨c0,c1,c2,c3,c4,c5,d0,d1,q0,q1,q2⟩:=X.out.cells
   go_wp2_with fail
   refine (MB.out _).mono ?_
   rintro e w2 ⟨rfl,hb⟩
   have B:=Lh (B.out.trans (hb.mono B.out.size))
   have X:=Lh (X.out.below hb)
   clear hb MB c0 c1 c2 c3 c4 c5 d0 d1 q0 q1 q2
   obtain ⟨c0,c1,c2,c3,c4,c5,d0,d1,q0,q1,q2⟩:=X.out.cells
   go_wp2
   go_ret2
   exact PlanOut.none _ _ _ _ rfl B.out
 ·rw [show tcE P T A M W Q S C=8 from if_neg hm] at CK
  have hE:spE P T A M W Q S C (v,a,g)=8:=if_neg hm
  have hL:spL P T A M W Q S C (v,a,g)=[]:=by
   unfold spL
   rw [hE]
   rfl
  rw [hE,hL]
  clear hm hq hs hi x hbel hE hL
  go_enter Tryz.func120,Tryz.ntmps120
  go_wp2_with fail
  rw [← hw0]
  clear hw0
  refine (CK.out _ X.out.two.dsk.dsk).mono ?_
  rintro e w1 ⟨rfl,hb⟩
  have B:=Lh (B.out.trans (hb.mono B.out.size))
  have X:=Lh (X.out.below hb)
  clear hb CK c0 c1 c2 c3 c4 c5 d0 d1 q0 q1 q2
  obtain ⟨c0,c1,c2,c3,c4,c5,d0,d1,q0,q1,q2⟩:=X.out.cells
  go_wp2
  go_ret2
  exact PlanOut.none _ _ _ _ rfl B.out
end Go.Proofs.YtifgcfepbenpjaaGreat
namespace Go.Proofs.YtifgcfepbenpjaaGreat
open Go.RowKit Go.OpenShut Go.ChangeShapes Go.WideShapes Go.Deep
end Go.Proofs.YtifgcfepbenpjaaGreat
namespace Go.Proofs.YtifgcfepbenpjaaGreat
open Go.RowKit
theorem nums_jrn (w:World) (g n m:Int) (b B:Nat) (hb:b=w.heap.size) (hB:w.heap.size < B):Seq (w.alloc (.cells #[.int .u64 g,.int .u64 1,.int .u64 n,.int .u64 m,.int .u64 0] 27)) B (some ⟨b,0,none⟩) (ints .u64 [g,1,n,m,0]):=lit_row w 27 .u64 [g,1,n,m,0] _ _ _ rfl hb hB
theorem lit_sz5 (w:World) (b B:Nat) (hb:b=w.heap.size) (hB:w.heap.size < B):Seq (w.alloc (.cells #[.int .i64 8,.int .i64 1,.int .i64 1,.int .i64 1,.int .i64 1] 3)) B (some ⟨b,0,none⟩) (ints .i64 sz5):=lit_row w 3 .i64 sz5 _ b B rfl hb hB
theorem rsector_any (g n:Int) (hg:isG g) (hn:0≤n∧n≤255) (A:Option Addr) (k c:Nat) (b:Txt) (w:World) (h:Arg w .u8 A k c b) (hk:k≤20) :
  Calls Tryz.prog 102 #[.int .u64 g,.int .i64 n,.slice A k c] w fun e w'=>∃ A' c',e=.returned (.slice A' 32 c')∧w'.ownsRow w.heap.size 5 1 (.slice A' 32 c') 32 (ints .u8 (jT g n b))∧Below w.heap.size w w':=by
 obtain ⟨i0,hi0,hz0,hz1,hz2⟩:=info_parts byte_info
 have hml:(1000:Nat)≤maxLen:=by decide
 have e1:IntKind.u64.wrap n=n:=wraps_u64 n hn.1 (by omega)
 have e2:IntKind.u64.wrap (k:Int)=k:=wraps_u64 k (by omega) (by omega)
 have hb1:Below w.heap.size w (w.alloc (.cells #[.int .u64 g,.int .u64 1,.int .u64 n,.int .u64 (k:Int),.int .u64 0] 27)):=(Below.refl _ _).alloc (Nat.le_refl _) _
 obtain ⟨w1,hw1⟩:∃ x,x=w.alloc (.cells #[.int .u64 g,.int .u64 1,.int .u64 n,.int .u64 (k:Int),.int .u64 0] 27):=⟨_,rfl⟩
 have hL:=nums_jrn w g n k w.heap.size w1.heap.size rfl (by rw [hw1];simp)
 rw [← hw1] at hb1 hL
 have hb2:Below w1.heap.size w1 (w1.alloc (.cells #[.int .i64 8,.int .i64 1,.int .i64 1,.int .i64 1,.int .i64 1] 3)):=(Below.refl _ _).alloc (Nat.le_refl _) _
 have hZ:=lit_sz5 w1 w1.heap.size (w1.alloc (.cells #[.int .i64 8,.int .i64 1,.int .i64 1,.int .i64 1,.int .i64 1] 3)).heap.size rfl (by simp)
 obtain ⟨w2,hw2⟩:∃ x,x=w1.alloc (.cells #[.int .i64 8,.int .i64 1,.int .i64 1,.int .i64 1,.int .i64 1] 3):=⟨_,rfl⟩
 rw [← hw2] at hb2 hZ
 have hL2:=(hL.below hb2).more hb2.size
 have hB:=hb1.trans (hb2.mono hb1.size)
 have RW:=Lh (row_any (some ⟨w.heap.size,0,none⟩) (some ⟨w1.heap.size,0,none⟩) 5 5 5 [g,1,n,k,0] sz5 w2 hZ okB_sz5 hL2 rfl rfl (by
  intro z hz
  simp only [List.mem_cons,List.not_mem_nil,or_false] at hz
  obtain ⟨hg0,hg1⟩:=hg
  unfold isWord
  rcases hz with rfl | rfl | rfl | rfl | rfl <;> omega))
 have hrl:=jrow_length g n k
 have hs1:w1.heap.size=w.heap.size + 1:=by rw [hw1];simp
 have HA:=Lh h
 have HB:=Lh hB
 have hbl:=h.len
 have HBL:=Lh hbl
 have hge:w.heap.size≤w2.heap.size:=hB.size
 rw [hs1] at RW
 clear h hL hL2 hZ hb1 hb2 hB hbl hg hn
 go_enter Tryz.func102,Tryz.ntmps102
 go_wp2_with fail
 rw [← hw1,← hw2]
 clear hw1 hw2 hs1
 refine RW.out.mono ?_
 rintro e w3 ⟨A3,c3,rfl,hown,hb3⟩
 rw [show rowTo [g,1,n,(k:Int),0] sz5 5=jrow g n k from rfl] at hown ⊢
 rw [hrl] at hown ⊢
 have B3:=Lh (HB.out.trans (hb3.mono HB.out.size))
 have O3:=Lh (owns_base hown hge)
 have HA3:=Lh (HA.out.below B3.out)
 have hg3:w.heap.size≤w3.heap.size:=B3.out.size
 clear hown hb3 RW hrl hge
 obtain ⟨m,hm⟩:∃ m:Nat,20 - (k:Int)=(m:Int):=⟨20 - k,by omega⟩
 have hnm:k + m=20:=by omega
 have hsz3:w.heap.size≤w3.heap.size:=hg3
 have hM1:12 + k≤maxLen:=by omega
 go_wp2_with (first
  | (at_builtin;(refine wpList_app _ rfl (.tmp 17) (.tmp 18) _ rfl w.heap.size 5 i0 _ 1 Tryz.underlying42 hi0 hz0 hz1 hz2 rfl _ 12 _ rfl O3.out w3.heap.size A k c (ints .u8 b) rfl (by rw [ints_length,HBL.out]) HA3.out.seq (ints_one _ _) hM1 (by omega) hg3 ?_);intro v4 w4 hown4 hg4 hob4;obtain ⟨A4,c4,rfl⟩:=owns_slice hown4;have hsz4:w.heap.size≤w4.heap.size:=Nat.le_trans hsz3 hg4.size;have HL4:=Lh (O3.out.lt);have O4:=Lh hown4;have B4:=Lh (B3.out.grown hg4 hg3 (fun g e=>(HL4.out g e).1));clear hown4 hg4 hob4)
  | (at_builtin;(refine wpList_noughts _ rfl (.tmp 19) (.tmp 22) rfl w.heap.size _ (12 + k) _ rfl O4.out m rfl (by omega) (by omega) hsz4 ?_);intro v5 w5 hown5 hg5 hob5;obtain ⟨A5,c5,rfl⟩:=owns_slice hown5;have HL5:=Lh (O4.out.lt);have O5:=Lh hown5;have B5:=Lh (B4.out.grown hg5 hsz4 (fun g e=>(HL5.out g e).1));clear hown5 hg5 hob5))
 go_ret
 have e32:12 + k + m=32:=by omega
 have hO:=O5.out
 rw [e32] at hO ⊢
 refine ⟨A5,c5,rfl,?_,B5.out⟩
 have:ints .u8 (jT g n b)=ints .u8 (jrow g n k) ++ ints .u8 b ++ List.replicate m (.int .u8 0):=by
  unfold jT
  rw [ints_app,ints_app,HBL.out,show 20 - k=m by omega]
  simp [ints]
 rw [this]
 exact hO
end Go.Proofs.YtifgcfepbenpjaaGreat
namespace Go.Proofs.YtifgcfepbenpjaaGreat
open Go.RowKit Go.Maps
def SortOut (w:World) (base:Nat) (A:Option Addr) (n c:Nat) (L:List Rc) (e:Ending) (w':World):Prop:=e=.returned (.tuple #[])∧OwnRecs w' base A n c (isoR L n)∧Below base w w'
theorem pins_all (A:Option Addr) (n c base:Nat) (L:List Rc) (w:World) (hown:OwnRecs w base A n c L) (hb:base≤w.heap.size) (hn:n≤12) :
  Calls Tryz.prog 192 #[.slice A n c,.int .i64 0,.int .i64 (n:Int),(.func (.func 152) #[] #[])] w (SortOut w base A n c L):=by
 unfold SortOut
 rcases Nat.eq_zero_or_pos n with h0 | h1
 ·subst h0
  have HO:=Lh (show OwnRecs w base A 0 c (isoR L 0) from hown)
  clear hown
  rw [show ((0:Nat):Int)=0 from rfl]
  go_enter Tryz.func192,Tryz.ntmps192
  go_wp2
  go_loopw [8] (fun i wr=>i=.int .i64 1∧wr=w) (fun _ _=>0)
  case atStart=>exact ⟨rfl,rfl⟩
  case round =>
   obtain ⟨rfl,rfl⟩:=hrel
   go_wp2
   first | go_end0 | refine bodyPost_ret (results_none rfl _ _ _) rfl ?_
   exact ⟨rfl,HO.out,Below.refl _ _⟩
 ·obtain ⟨g,rfl,hg⟩:∃ g,A=some ⟨g,0,none⟩∧base≤g:=by
   rcases hown.1.2 with ⟨_,h0⟩ | ⟨g,cap,cur,e,hg,_⟩
   ·omega
   ·cases e
    exact ⟨g,rfl,hg⟩
  refine (pins_any g n c base L w hown h1 hn).mono ?_
  rintro e w' ⟨rfl,h2,h3⟩
  exact ⟨rfl,h2,(Below.refl _ _).grown h3 hb (fun k hk=>by injection hk with hk;omega)⟩
theorem ppdq_any (A:Option Addr) (n c base:Nat) (L:List Rc) (lim:Int) (w:World) (hown:OwnRecs w base A n c L) (hb:base≤w.heap.size) (hn:n≤12) :
  Calls Tryz.prog 176 #[.slice A n c,.int .i64 0,.int .i64 (n:Int),.int .i64 lim,(.func (.func 152) #[] #[])] w (SortOut w base A n c L):=by
 have P:=Lh (pins_all A n c base L w hown hb hn)
 unfold SortOut at P ⊢
 have e1:IntKind.i64.wrap (n:Int)=(n:Int):=by rw [IntKind.wrap_i64];omega
 have e2:(n:Int)≤12:=by omega
 clear hown hb hn
 go_enter Tryz.func176,Tryz.ntmps176
 go_wp2
 go_loopw [1,2,3] (fun a b l wr=>a=.int .i64 0∧b=.int .i64 (n:Int)∧l=.int .i64 lim∧wr=w) (fun _ _ _ _=>0)
 case atStart=>exact ⟨rfl,rfl,rfl,rfl⟩
 case round =>
  obtain ⟨rfl,rfl,rfl,rfl⟩:=hrel
  go_wp2_with fail
  refine P.out.mono ?_
  rintro e w' ⟨rfl,h2,h3⟩
  have H2:=Lh h2
  have H3:=Lh h3
  clear h2 h3
  go_wp2
  first | go_end0 | refine bodyPost_ret (results_none rfl _ _ _) rfl ?_
  exact ⟨rfl,H2.out,H3.out⟩
theorem psortf_any (A:Option Addr) (n c base:Nat) (L:List Rc) (w:World) (hown:OwnRecs w base A n c L) (hb:base≤w.heap.size) (hn:n≤3) :
  Calls Tryz.prog 151 #[.slice A n c,(.func (.func 152) #[] #[])] w (SortOut w base A n c L):=by
 have P:=Lh (fun lim=>ppdq_any A n c base L lim w hown hb (by omega))
 have LN:=Lh (plen_any n hn w)
 unfold SortOut at P ⊢
 have e1:IntKind.u64.wrap (n:Int)=(n:Int):=wrapw64 _ (by omega) (by omega)
 clear hown hb hn
 go_enter Tryz.func151,Tryz.ntmps151
 go_wp2_with fail
 refine LN.out.mono ?_
 rintro e w1 ⟨⟨k,rfl⟩,rfl⟩
 go_wp2_with fail
 refine (P.out _).mono ?_
 rintro e w' ⟨rfl,h2,h3⟩
 have H2:=Lh h2
 have H3:=Lh h3
 clear h2 h3
 go_wp2
 first | go_end0 | refine bodyPost_ret (results_none rfl _ _ _) rfl ?_
 exact ⟨rfl,H2.out,H3.out⟩
end Go.Proofs.YtifgcfepbenpjaaGreat
