/- Texts of layers 1 to 12, joined. -/
import Derived.Test.YtifgcfepbenpjaaGreatNb39
import Derived.Laws.Rows
set_option maxRecDepth 100000
set_option maxHeartbeats 12800000
set_option linter.unusedVariables false
namespace Go.Proofs.YtifgcfepbenpjaaGreat
open Go.RowKit
theorem GathOut.trans {a b c:World} {G:Nat} {l l':List Ac} (h:GathOut a G l b) (k:GathOut b G l' c):GathOut a G l' c:=⟨k.1,h.2.1.trans k.2.1,h.2.2.trans k.2.2⟩
theorem GathOut.refl {w:World} {G:Nat} {l:List Ac} (h:Gath w G l):GathOut w G l w:=⟨h,Below.refl _ _,ColTo.of (Below.refl w.heap.size w) (Nat.le_refl _)⟩
theorem GathOut.of {w w':World} {G:Nat} {l:List Ac} (h:Gath w G l) (hb:Below w.heap.size w w'):GathOut w G l w':=⟨h.below hb,hb.mono (Nat.le_of_lt h.lt),ColTo.of hb (Nat.le_refl _)⟩
theorem GathOut.more {a w w':World} {G:Nat} {l:List Ac} (h:GathOut a G l w) (hb:Below w.heap.size w w'):GathOut a G l w':=h.trans (GathOut.of h.1 hb)
theorem wrA_step {ps:List Pnd} {k:Nat} (h:k < ps.length):wrA (ps.take (k + 1))=wrA (ps.take k) ++ [(1,(ps.getD k (0,[])).1,(ps.getD k (0,[])).2)]:=by
 rw [take_snoc h ((0,[]):Pnd)]
 unfold wrA
 rw [List.map_append]
 rfl
abbrev colF (G:Nat):Value:=.func (.func 69) #[] #[.pointer (some ⟨G,0,none⟩)]
theorem pcol_any (G:Nat) (l:List Ac) (k x:Int) (Ai:Option Addr) (ni ci:Nat) (b:Txt) (w:World) (hc:Gath w G l) (ht:OwnTxt w (G + 1) Ai ni ci b) (hb:∀ z ∈ b,isByte z) (hl:l.length≤1000) :
  Calls Tryz.prog 69 #[actV k x Ai ni ci,.pointer (some ⟨G,0,none⟩)] w fun e w'=>e=.returned (.tuple #[])∧GathOut w G (l ++ [(k,x,b)]) w':=by
 obtain ⟨A,n,c,h1,L,h2,h3,h4,h5⟩:=hc
 have y:=Blk.new w 75 (actL k x Ai ni ci)
 have hbel:Below w.heap.size w (w.alloc (.cells #[.int .u8 k,.int .i64 x,.slice Ai ni ci,.int .u32 0,.int .u32 0,.int .u8 0,.int .i64 0,.bool false,.int .i64 0,.int .u32 0,.int .u32 0,.int .i64 0,.int .u8 0,.int .i64 0,.bool false,.bool false,.int .u8 0,.int .u32 0,.int .u32 0,.int .i64 0,.int .u32 0,.int .i64 0,.slice none 0 0,.slice none 0 0,.int .i64 0,.int .i64 0,.int .u8 0,.slice none 0 0,.int .i64 0] 75)):=(Below.refl _ _).alloc (Nat.le_refl _) _
 obtain ⟨w1,hw1⟩:∃ y,y=w.alloc (.cells #[.int .u8 k,.int .i64 x,.slice Ai ni ci,.int .u32 0,.int .u32 0,.int .u8 0,.int .i64 0,.bool false,.int .i64 0,.int .u32 0,.int .u32 0,.int .i64 0,.int .u8 0,.int .i64 0,.bool false,.bool false,.int .u8 0,.int .u32 0,.int .u32 0,.int .i64 0,.int .u32 0,.int .i64 0,.slice none 0 0,.slice none 0 0,.int .i64 0,.int .i64 0,.int .u8 0,.slice none 0 0,.int .i64 0] 75):=⟨_,rfl⟩
 change Blk (w.alloc (.cells #[.int .u8 k,.int .i64 x,.slice Ai ni ci,.int .u32 0,.int .u32 0,.int .u8 0,.int .i64 0,.bool false,.int .i64 0,.int .u32 0,.int .u32 0,.int .i64 0,.int .u8 0,.int .i64 0,.bool false,.bool false,.int .u8 0,.int .u32 0,.int .u32 0,.int .i64 0,.int .u32 0,.int .i64 0,.slice none 0 0,.slice none 0 0,.int .i64 0,.int .i64 0,.int .u8 0,.slice none 0 0,.int .i64 0] 75)) _ _ _ at y
 rw [← hw1] at y hbel
 have hG:=h1.lt
 have q1:=h1.below hbel hG
 have hL:=h2.below hbel
 have BX:=Lh q1
 have HL:=Lh hL
 have HN:=Lh (show n + 1≤100000 by omega)
 have HG:=Lh (show G + 1≤w1.heap.size from Nat.le_trans hG hbel.size)
 have FIN:=Lh (fun A' c' w2 x2 x3 x4=>gath_more (k:=k) (x:=x) (w1:=w2) (A':=A') (c':=c') q1 hL h3 h4 (fun i hi=>⟨(h5 i hi).1,(h5 i hi).2.1,(h5 i hi).2.2.below hbel⟩) (ht.below hbel) hb x2 x3 x4)
 have BE:=Lh hbel
 have PRE:=Lh (GathOut.of (show Gath w G l from ⟨A,n,c,h1,L,h2,h3,h4,h5⟩) hbel)
 have HY:=Lh y
 have g0:=q1.cell 0
 have f0:=q1.free 0
 change w1.cell? ⟨G,0,none⟩=some (.slice A n c) at g0
 clear y hbel h1 h2 h3 h4 h5 ht hb hl hG q1 hL
 go_enter Tryz.func69,Tryz.ntmps69
 go_upto_region 1 with fail
 rw [← hw1]
 clear hw1
 go_wp2_with (first | (refine wpList_load_row (o:=⟨some 4,_,_,_,_,_⟩) rfl 75 (.tmp 2) rfl w.heap.size rfl 75 #[.int .u8 k,.int .i64 x,.slice Ai ni ci,.int .u32 0,.int .u32 0,.int .u8 0,.int .i64 0,.bool false,.int .i64 0,.int .u32 0,.int .u32 0,.int .i64 0,.int .u8 0,.int .i64 0,.bool false,.bool false,.int .u8 0,.int .u32 0,.int .u32 0,.int .i64 0,.int .u32 0,.int .i64 0,.slice none 0 0,.slice none 0 0,.int .i64 0,.int .i64 0,.int .u8 0,.slice none 0 0,.int .i64 0] (0,0) _ HY.out Tryz.underlying75 rfl (by kernel_rfl) ?_) | (at_builtin;refine wpList_acs_g w1 rfl (.tmp 3) (.tmp 5) rfl (G + 1) A n c L rfl HL.out (k,x,Ai,ni,ci) rfl HN.out HG.out ?_;intro A' c' w2 x2 x3 x4;have OUT:=Lh (FIN.out A' c' w2 x2 x3 x4);have f1:=(BX.out.below x3 (Nat.lt_succ_self G)).free 0;have f2:=(BX.out.below x3 (Nat.lt_succ_self G)).cell 0;change w2.cell? ⟨G,0,none⟩=some (.slice A n c) at f2;clear x2 x3 x4))
 first | go_end0 | refine bodyPost_ret (results_none rfl _ _ _) rfl ?_
 exact ⟨rfl,PRE.out.trans OUT.out⟩
theorem pcflush_any (G:Nat) (l:List Ac) (w:World) (hc:Gath w G l) (hl:l.length≤1000) :
  Calls Tryz.prog 72 #[colF G] w fun e w'=>e=.returned (.tuple #[])∧GathOut w G (l ++ [(2,0,[])]) w':=by
 have PC:=Lh (pcol_any G l 2 0 none 0 0 [] w hc (OwnTxt.nil _ _) (by simp) hl)
 clear hc hl
 go_enter Tryz.func72,Tryz.ntmps72
 go_wp2_with fail
 refine PC.out.mono ?_
 rintro e w1 ⟨rfl,ho⟩
 have O:=Lh ho
 clear ho PC
 go_wp2
 first | go_end0 | refine bodyPost_ret (results_none rfl _ _ _) rfl ?_
 exact ⟨rfl,O.out⟩
theorem pcwrites_any (G:Nat) (l:List Ac) (A:Option Addr) (n c:Nat) (ps:List Pnd) (w:World) (hc:Gath w G l) (hp:OwnPnds w (G + 1) A n c ps) (hn:n≤100) (hl:l.length≤500) :
  Calls Tryz.prog 114 #[colF G,.slice A n c] w fun e w'=>e=.returned (.tuple #[])∧GathOut w G (l ++ wrA ps) w':=by
 have hlen:ps.length=n:=hp.out_len
 have HP:=Lh hp
 have C0:=Lh (GathOut.refl hc)
 have ST:=Lh (fun k (hk:k < n)=>wrA_step (ps:=ps) (k:=k) (by rw [hlen];exact hk))
 have FIN:=Lh (show wrA (ps.take n)=wrA ps by rw [← hlen,List.take_length])
 have HL:=Lh (fun k (hk:k≤n)=>(show (l ++ wrA (ps.take k)).length≤1000 by simp [wrA];omega))
 have BY:=Lh (fun k=>(Pnds.of_own hp).byte_at k)
 have HM:=Lh (show maxLen ≥ 100 by decide)
 clear hc hp hl hlen
 go_enter Tryz.func114,Tryz.ntmps114
 go_wp2
 go_loopw [8] (fun i wr=>∃ k:Nat,k≤n∧i=.int .i64 k∧GathOut w G (l ++ wrA (ps.take k)) wr) (fun i _=>n - (intOf i).toNat)
 case atStart=>exact ⟨0,Nat.zero_le _,rfl,by rw [show l ++ wrA (ps.take 0)=l by simp [wrA]];exact C0.out⟩
 case round =>
  obtain ⟨k,hk,rfl,hco⟩:=hrel
  have CO:=Lh hco
  clear hco
  by_cases hkn:k < n
  ·have hki:(k:Int) < (n:Int):=by omega
   have hp2:=CO.out.2.2.pnds HP.out
   obtain ⟨b,Ai,ni,ci,rfl,_,i1,i0,_,hot,_,_,_⟩:=hp2.row hkn
   have SK:=Lh (ST.out k hkn)
   obtain ⟨x1,hx1⟩:∃ y,y=(ps.getD k (0,[])).1:=⟨_,rfl⟩
   obtain ⟨x2,hx2⟩:∃ y,y=(ps.getD k (0,[])).2:=⟨_,rfl⟩
   have hby:=BY.out k
   rw [← hx1] at i0 SK
   rw [← hx2] at hot SK hby
   have y:=Blk.new wr 114 [.int .i64 x1,.slice Ai ni ci]
   have hk1:Below wr.heap.size wr (wr.alloc (.cells #[.int .i64 x1,.slice Ai ni ci] 114)):=(Below.refl _ _).alloc (Nat.le_refl _) _
   have C1:=Lh (CO.out.more hk1)
   have PC:=Lh (pcol_any G (l ++ wrA (ps.take k)) 1 x1 Ai ni ci x2 _ C1.out.1 (hot.below hk1) hby (HL.out k hk))
   obtain ⟨w2,hw2⟩:∃ y,y=wr.alloc (.cells #[.int .i64 x1,.slice Ai ni ci] 114):=⟨_,rfl⟩
   change Blk (wr.alloc (.cells #[.int .i64 x1,.slice Ai ni ci] 114)) _ _ _ at y
   rw [← hw2] at y C1 PC
   have y0:=y.cell 0
   have y1:=y.cell 1
   change w2.cell? ⟨wr.heap.size,0,none⟩=some (.int .i64 x1) at y0
   change w2.cell? ⟨wr.heap.size,1,none⟩=some (.slice Ai ni ci) at y1
   clear hp2 hot hx1 hx2 hby y hk1
   go_upto_region 3 with fail
   rw [← hw2]
   clear hw2 i0 i1
   go_wp2_with fail
   refine PC.out.mono ?_
   rintro e w3 ⟨rfl,ho⟩
   have C2:=Lh (C1.out.trans ho)
   clear ho PC y0 y1
   go_wp2
   go_roundw
   case rel=>exact ⟨k + 1,by omega,by go_num,by rw [SK.out,← List.append_assoc];exact C2.out⟩
   all_goals (try case measure=>simp [intOf];omega)
  ·obtain rfl:k=n:=by omega
   go_wp2
   first | go_end0 | refine bodyPost_ret (results_none rfl _ _ _) rfl ?_
   exact ⟨rfl,by rw [← FIN.out];exact CO.out⟩
theorem led_sup (w:World) (P T A M W Q:Int) (D:Option Addr) (nd d:Nat) (D':Option Addr) (nd' d':Nat) (v a g n u:Int) (B:Option Addr) (k c:Nat) (v2 a2 g2:Int) :
  Blk ((w.alloc (.cells #[.int .i64 P,.int .i64 T,.int .i64 A,.int .i64 M,.int .i64 W,.int .i64 Q,.slice D nd d,.slice D' nd' d',.int .u32 v,.int .i64 a,.int .u64 g,.int .i64 n,.int .i64 u,.slice B k c] 90)).alloc (.cells #[.int .u32 v2,.int .i64 a2,.int .u64 g2] 29)) w.heap.size 90 (ldL P T A M W Q D nd d D' nd' d' v a g n u B k c)∧Blk ((w.alloc (.cells #[.int .i64 P,.int .i64 T,.int .i64 A,.int .i64 M,.int .i64 W,.int .i64 Q,.slice D nd d,.slice D' nd' d',.int .u32 v,.int .i64 a,.int .u64 g,.int .i64 n,.int .i64 u,.slice B k c] 90)).alloc (.cells #[.int .u32 v2,.int .i64 a2,.int .u64 g2] 29)) (w.heap.size + 1) 29 [.int .u32 v2,.int .i64 a2,.int .u64 g2]∧Below w.heap.size w ((w.alloc (.cells #[.int .i64 P,.int .i64 T,.int .i64 A,.int .i64 M,.int .i64 W,.int .i64 Q,.slice D nd d,.slice D' nd' d',.int .u32 v,.int .i64 a,.int .u64 g,.int .i64 n,.int .i64 u,.slice B k c] 90)).alloc (.cells #[.int .u32 v2,.int .i64 a2,.int .u64 g2] 29)):=by
 obtain ⟨x,hb⟩:=led_box w P T A M W Q D nd d D' nd' d' v a g n u B k c
 obtain ⟨y,hk⟩:=sup_box (w.alloc (.cells #[.int .i64 P,.int .i64 T,.int .i64 A,.int .i64 M,.int .i64 W,.int .i64 Q,.slice D nd d,.slice D' nd' d',.int .u32 v,.int .i64 a,.int .u64 g,.int .i64 n,.int .i64 u,.slice B k c] 90)) v2 a2 g2
 rw [World.size_alloc] at y
 exact ⟨x.below hk x.lt,y,hb.trans (hk.mono hb.size)⟩
theorem spl_one {P T A M W Q:Int} {S:List Sec} {C:List Pnd} {s:Sup}:(spL P T A M W Q S C s).length≤1:=by
 unfold spL
 split
 ·rename_i h
  rw [(spL_good h).1]
  exact Nat.le_refl 1
 ·exact Nat.zero_le _
theorem pwsuper_any (G:Nat) (l:List Ac) (P T A M W Q:Int) (D:Option Addr) (nd d:Nat) (D':Option Addr) (nd' d':Nat) (S:List Sec) (C:List Pnd) (v a g n u:Int) (B:Option Addr) (k c:Nat) (v2 a2 g2:Int) (w0 w:World) (hc:Gath w G l) (hq:Dsk w0 D nd d D' nd' d' S C) (hs:SmallD S C) (hb0:Below w0.heap.size w0 w) (hi:isS (v2,a2,g2)) (hl:l.length≤500) :
  Calls Tryz.prog 77 #[ldV P T A M W Q D nd d D' nd' d' v a g n u B k c,supV v2 a2 g2,colF G] w fun e w'=>e=.returned (.int .i64 (spE P T A M W Q S C (v2,a2,g2)))∧GathOut w G (if spE P T A M W Q S C (v2,a2,g2)=0 then l ++ actsA (spL P T A M W Q S C (v2,a2,g2)) else l) w':=by
 obtain ⟨x,y,hbel⟩:=led_sup w P T A M W Q D nd d D' nd' d' v a g n u B k c v2 a2 g2
 obtain ⟨w1,hw1⟩:∃ y,y=((w.alloc (.cells #[.int .i64 P,.int .i64 T,.int .i64 A,.int .i64 M,.int .i64 W,.int .i64 Q,.slice D nd d,.slice D' nd' d',.int .u32 v,.int .i64 a,.int .u64 g,.int .i64 n,.int .i64 u,.slice B k c] 90)).alloc (.cells #[.int .u32 v2,.int .i64 a2,.int .u64 g2] 29)):=⟨_,rfl⟩
 rw [← hw1] at x y hbel
 have DQ:=Lh (hq.below (hb0.trans (hbel.mono hb0.size)))
 have CO:=Lh (GathOut.of hc hbel)
 have PL:=Lh (fun wx hx=>splan_any P T A M W Q D nd d D' nd' d' S C v2 a2 g2 wx hx hs hi)
 unfold PlanOut at PL
 have HP1:=Lh (spl_one (P:=P) (T:=T) (A:=A) (M:=M) (W:=W) (Q:=Q) (S:=S) (C:=C) (s:=(v2,a2,g2)))
 obtain ⟨ps,hps⟩:∃ y,y=spL P T A M W Q S C (v2,a2,g2):=⟨_,rfl⟩
 obtain ⟨E,hE⟩:∃ y,y=spE P T A M W Q S C (v2,a2,g2):=⟨_,rfl⟩
 rw [← hps] at PL HP1
 rw [← hE] at PL
 rw [← hps,← hE]
 obtain ⟨m,hm⟩:∃ y,y=ps.length:=⟨_,rfl⟩
 rw [← hm] at PL HP1
 have HM:=Lh hm
 have HGL:=Lh (show G < w1.heap.size from CO.out.1.lt)
 have PW:=Lh (fun A0 c0 wx (hx:Gath wx G l) (hp:OwnPnds wx (G + 1) A0 m c0 ps)=>pcwrites_any G l A0 m c0 ps wx hx hp (by have:=HP1.out;omega) hl)
 have PF:=Lh (fun wx (hx:Gath wx G (l ++ wrA ps))=>pcflush_any G (l ++ wrA ps) wx hx (by have:=HP1.out;have:=HM.out;simp [wrA];omega))
 have HA:=Lh (show l ++ wrA ps ++ [(2,0,[])]=l ++ actsA ps by rw [List.append_assoc];rfl)
 obtain ⟨c0,c1,c2,c3,c4,c5,c6,c7,d0,d1,d2,d3,d4,d5⟩:=x.led
 obtain ⟨y0,y1,y2⟩:=y.tri
 clear x y hbel hq hs hb0 hi hl hps hE hm hc
 by_cases h0:E=0
 ·subst h0
  rw [if_pos rfl]
  go_enter Tryz.func77,Tryz.ntmps77
  go_wp2_with fail
  rw [← hw1]
  clear hw1
  refine (PL.out _ DQ.out).mono ?_
  rintro e w2 ⟨A2,x2,rfl,hp,hb⟩
  have HP:=Lh (hp.lower (base':=G + 1) HGL.out)
  have CO:=Lh (CO.out.more hb)
  clear hp hb PL y0 y1 y2 c0 c1 c2 c3 c4 c5 c6 c7 d0 d1 d2 d3 d4 d5
  go_wp2_with fail
  refine (PW.out _ _ _ CO.out.1 HP.out).mono ?_
  rintro e w3 ⟨rfl,ho⟩
  have CO:=Lh (CO.out.trans ho)
  clear ho PW HP
  go_wp2_with fail
  refine (PF.out _ CO.out.1).mono ?_
  rintro e w4 ⟨rfl,ho⟩
  have CO:=Lh (CO.out.trans ho)
  clear ho PF
  go_wp2
  go_ret
  exact ⟨rfl,by rw [← HA.out];exact CO.out⟩
 ·rw [if_neg h0]
  have hz:(E != 0)=true:=by simpa using h0
  clear h0
  go_enter Tryz.func77,Tryz.ntmps77
  go_wp2_with fail
  rw [← hw1]
  clear hw1
  refine (PL.out _ DQ.out).mono ?_
  rintro e w2 ⟨A2,x2,rfl,hp,hb⟩
  have HP:=Lh (hp.lower (base':=G + 1) HGL.out)
  have CO:=Lh (CO.out.more hb)
  clear hp hb PL y0 y1 y2 c0 c1 c2 c3 c4 c5 c6 c7 d0 d1 d2 d3 d4 d5
  go_wp2
  go_ret
  exact ⟨rfl,CO.out⟩
theorem OwnPnds.one {w:World} {base h:Nat} {x:Int} {A:Option Addr} {n c:Nat} {b:Txt} (hb:Blk w h 114 [.int .i64 x,.slice A n c]) (hh:base≤h) (ht:OwnTxt w base A n c b) (hby:∀ z ∈ b,isByte z):OwnPnds w base (some ⟨h,0,none⟩) 1 1 [(x,b)]:=by
 refine ⟨[.int .i64 x,.slice A n c],⟨rfl,.inr ⟨h,1,_,rfl,hh,hb,Nat.le_refl _,by decide,rfl,rfl⟩⟩,rfl,?_,fun i hi=>?_⟩
 ·intro s hs
  rw [List.mem_singleton.1 hs]
  exact hby
 ·obtain rfl:i=0:=by omega
  exact ⟨A,n,c,rfl,rfl,ht⟩
theorem pwnote_any (G:Nat) (l:List Ac) (P T A M W Q:Int) (D:Option Addr) (nd d:Nat) (D':Option Addr) (nd' d':Nat) (S:List Sec) (C:List Pnd) (v a g n u:Int) (B:Option Addr) (k c:Nat) (v2 a2 g2 j:Int) (Ab:Option Addr) (nb cb:Nat) (b:Txt) (w0 w:World) (hc:Gath w G l) (hq:Dsk w0 D nd d D' nd' d' S C) (hs:SmallD S C) (hb0:Below w0.heap.size w0 w) (hg:isG g2) (hb:Arg w .u8 Ab nb cb b) (hby:∀ z ∈ b,isByte z) (hm:mayT P T A M W Q S C) (ha:arJ a2) (hj:0≤j∧j < A) (hn1:1≤b.length) (hn20:b.length≤20) (hl:l.length≤500) :
  Calls Tryz.prog 71 #[ldV P T A M W Q D nd d D' nd' d' v a g n u B k c,supV v2 a2 g2,.int .i64 j,.slice Ab nb cb,colF G] w fun e w'=>e=.returned (.tuple #[])∧GathOut w G (l ++ wrA [(2 + a2 * A + j,jT g2 j b)]) w':=by
 obtain ⟨x,y,hbel⟩:=led_sup w P T A M W Q D nd d D' nd' d' v a g n u B k c v2 a2 g2
 obtain ⟨w1,hw1⟩:∃ y,y=((w.alloc (.cells #[.int .i64 P,.int .i64 T,.int .i64 A,.int .i64 M,.int .i64 W,.int .i64 Q,.slice D nd d,.slice D' nd' d',.int .u32 v,.int .i64 a,.int .u64 g,.int .i64 n,.int .i64 u,.slice B k c] 90)).alloc (.cells #[.int .u32 v2,.int .i64 a2,.int .u64 g2] 29)):=⟨_,rfl⟩
 rw [← hw1] at x y hbel
 have DQ:=Lh (hq.below (hb0.trans (hbel.mono hb0.size)))
 have CO:=Lh (GathOut.of hc hbel)
 have AB:=Lh (hb.below hbel)
 have PL:=Lh (fun wx hx hy=>jplan_any P T A M W Q D nd d D' nd' d' S C a2 g2 j Ab nb cb b wx hx hs hg hy)
 have hE:jpE P T A M W Q S C a2 j b=0:=by
  have hA:A≤32:=by have h:=hm.1;unfold mayC at h;omega
  unfold jpE
  rw [show jaE P T A M W Q S C a2=0 by unfold jaE;rw [if_pos hm,if_pos ha],if_pos rfl,if_pos hj.1,if_pos hj.2]
  unfold jtE
  rw [if_pos ⟨hn1,hn20⟩,if_pos ⟨hj.1,by omega⟩]
 rw [show jpN P T A M W Q S C a2 j b=2 + a2 * A + j from if_pos hE,show jpB P T A M W Q S C a2 g2 j b=jT g2 j b from if_pos hE,hE] at PL
 unfold PndOut at PL
 have TB:=Lh (jT_byte g2 j hby)
 rw [jT_length g2 j hn20] at PL
 obtain ⟨X,hX⟩:∃ y,y=2 + a2 * A + j:=⟨_,rfl⟩
 obtain ⟨tx,htx⟩:∃ y,y=jT g2 j b:=⟨_,rfl⟩
 rw [← hX,← htx] at PL ⊢
 rw [← htx] at TB
 have HGL:=Lh (show G < w1.heap.size from CO.out.1.lt)
 have PW:=Lh (fun A0 c0 wx (hx:Gath wx G l) (hp:OwnPnds wx (G + 1) A0 1 c0 [(X,tx)])=>pcwrites_any G l A0 1 c0 [(X,tx)] wx hx hp (by decide) hl)
 obtain ⟨c0,c1,c2,c3,c4,c5,c6,c7,d0,d1,d2,d3,d4,d5⟩:=x.led
 obtain ⟨y0,y1,y2⟩:=y.tri
 clear x y hbel hq hs hb0 hg hb hby hm ha hj hn1 hn20 hl hE hX htx hc
 go_enter Tryz.func71,Tryz.ntmps71
 go_wp2_with fail
 rw [← hw1]
 clear hw1
 refine (PL.out _ DQ.out AB.out).mono ?_
 rintro e w2 ⟨A2,x2,rfl,hp,hb⟩
 have CO:=Lh (CO.out.more hb)
 have p1:=Blk.new w2 114 [.int .i64 X,.slice A2 32 x2]
 have k1:Below w2.heap.size w2 (w2.alloc (.cells #[.int .i64 X,.slice A2 32 x2] 114)):=(Below.refl _ _).alloc (Nat.le_refl _) _
 obtain ⟨w3,hw3⟩:∃ y,y=w2.alloc (.cells #[.int .i64 X,.slice A2 32 x2] 114):=⟨_,rfl⟩
 change Blk (w2.alloc (.cells #[.int .i64 X,.slice A2 32 x2] 114)) _ _ _ at p1
 rw [← hw3] at p1 k1
 have p2:=Blk.new w3 114 [.int .i64 X,.slice A2 32 x2]
 have k2:Below w3.heap.size w3 (w3.alloc (.cells #[.int .i64 X,.slice A2 32 x2] 114)):=(Below.refl _ _).alloc (Nat.le_refl _) _
 obtain ⟨w4,hw4⟩:∃ y,y=w3.alloc (.cells #[.int .i64 X,.slice A2 32 x2] 114):=⟨_,rfl⟩
 change Blk (w3.alloc (.cells #[.int .i64 X,.slice A2 32 x2] 114)) _ _ _ at p2
 rw [← hw4] at p2 k2
 have z0:=p1.cell 0
 have z1:=p1.cell 1
 change w3.cell? ⟨w2.heap.size,0,none⟩=some (.int .i64 X) at z0
 change w3.cell? ⟨w2.heap.size,1,none⟩=some (.slice A2 32 x2) at z1
 have CO:=Lh ((CO.out.more k1).more k2)
 have HP:=Lh (OwnPnds.one p2 (base:=G + 1) (Nat.le_trans HGL.out (Nat.le_trans hb.size k1.size)) (((hp.lower (base':=G + 1) HGL.out).below k1).below k2) TB.out)
 clear hp hb PL y0 y1 y2 p1 p2 k1 k2 c0 c1 c2 c3 c4 c5 c6 c7 d0 d1 d2 d3 d4 d5
 go_upto_region 2 with fail
 rw [← hw3]
 clear hw3
 go_wp2_with fail
 rw [← hw4]
 clear hw4
 refine (PW.out _ _ _ CO.out.1 HP.out).mono ?_
 rintro e w5 ⟨rfl,ho⟩
 have CO:=Lh (CO.out.trans ho)
 clear ho PW HP z0 z1
 go_wp2
 first | go_end0 | refine bodyPost_ret (results_none rfl _ _ _) rfl ?_
 exact ⟨rfl,CO.out⟩
end Go.Proofs.YtifgcfepbenpjaaGreat
