/- Texts of layers 1 to 12, joined. -/
import Derived.Test.YtifgcfepbenpjaaGreatNb45
import Derived.RegionTactic
import Derived.WalkKit
set_option maxRecDepth 100000
set_option maxHeartbeats 12800000
set_option linter.unusedVariables false
namespace Go.Proofs.YtifgcfepbenpjaaGreat
open Go.RowKit
def hdT (g:Int):Txt:=digs 8 g ++ [1]
theorem hdT_row (g:Int):rowTo [g,1] [8,1] 2=hdT g:=by
 have h:rowTo [g,1] [8,1] 2=(([] ++ digs 8 g) ++ digs 1 1):=rfl
 rw [h]
 simp [digs,hdT]
theorem hdT_length (g:Int):(hdT g).length=9:=by simp [hdT,digs_length]
theorem hdT_byte (g:Int):∀ z ∈ hdT g,isByte z:=fun z hz=>by
 rcases List.mem_append.1 hz with h | h
 ·exact digs_byte _ _ z h
 ·rw [List.mem_singleton.1 h];exact ⟨by decide,by decide⟩
theorem fits2 {g:Int} (hg:isG g):fitsTo [g,1] [8,1] 2=true:=by
 have h1:g / 256 ^ 8=0:=Int.ediv_eq_zero_of_lt hg.1 (by rw [show (256:Int) ^ 8=18446744073709551616 by decide];exact hg.2)
 show ((true && decide (g / 256 ^ 8=0)) && decide ((1:Int) / 256 ^ 1=0))=true
 rw [h1]
 decide
theorem beg_take {g:Int} {x:Txt} (hg:isG g) (hx:x.length=32) (hb:∀ z ∈ x,isByte z):(x.take 9=hdT g)↔begT g x:=by
 have e:x.take 9=x.take 8 ++ [x.getD 8 0]:=by
  rw [show (9:Nat)=8 + 1 from rfl,List.take_add_one,gtD,geE (by omega)]
  rfl
 have l8:(x.take 8).length=8:=by rw [List.length_take];omega
 have hdv:digs 8 (val (x.take 8))=x.take 8:=by
  have:=digs_val (x.take 8) (fun z hz=>hb z (List.mem_of_mem_take hz))
  rw [l8] at this
  exact this
 unfold begT hdT
 rw [e]
 constructor
 ·intro h
  have:=List.append_inj h (by rw [l8,digs_length])
  exact ⟨by simpa using this.2,by rw [this.1];exact val_digs 8 g hg.1 (Int.ediv_eq_zero_of_lt hg.1 (by rw [show (256:Int) ^ 8=18446744073709551616 by decide];exact hg.2))⟩
 ·rintro ⟨h1,h2⟩
  rw [h1,← h2,hdv]
theorem phas_any (A:Option Addr) (c:Nat) (x:Txt) (A':Option Addr) (c':Nat) (y:Txt) (w:World) (hx:Arg w .u8 A 32 c x) (hy:Arg w .u8 A' 9 c' y) (bx:∀ z ∈ x,isByte z) (by_:∀ z ∈ y,isByte z) :
  Calls Tryz.prog 163 #[.slice A 32 c,.slice A' 9 c'] w fun e w'=>e=.returned (.bool (decide (x.take 9=y)))∧w'=w:=by
 have hl:=hx.len
 obtain ⟨b,o,rfl,_,_⟩:=hx.seq 0 (.int .u8 (x.getD 0 0)) (ints_getD .u8 x 0 (by omega))
 have hp:=hx.piece (lo:=0) (hi:=9) (by omega) (by omega)
 rw [Nat.add_zero,Nat.sub_zero,Nat.sub_zero,List.drop_zero] at hp
 have EQ:=Lh (pequal11_any (some ⟨b,o,none⟩) 9 c (x.take 9) A' 9 c' y w hp hy (fun z hz=>bx z (List.mem_of_mem_take hz)) by_)
 have hc:32≤c∧c≤maxLen:=⟨hx.cap,hx.max⟩
 unfold maxLen at hc
 have hc9:¬ (c:Int) < 9:=by omega
 obtain ⟨R,hR⟩:∃ R,R=decide (x.take 9=y):=⟨_,rfl⟩
 rw [← hR] at EQ ⊢
 clear hR hx hy bx by_ hl hp
 go_enter Tryz.func163,Tryz.ntmps163
 go_wp2_with fail
 refine EQ.out.mono ?_
 rintro e w1 ⟨rfl,rfl⟩
 clear EQ
 go_wp2
 go_ret
 exact ⟨rfl,rfl⟩
theorem pbeg_any (A:Option Addr) (c:Nat) (x:Txt) (gen:Int) (w:World) (hx:Arg w .u8 A 32 c x) (bx:∀ z ∈ x,isByte z) (hg:isG gen) :
  Calls Tryz.prog 129 #[.slice A 32 c,.int .u64 gen] w fun e w'=>e=.returned (.bool (decide (begT gen x)))∧Below w.heap.size w w':=by
 have hd:decide (begT gen x)=decide (x.take 9=hdT gen):=by rw [decide_eq_decide];exact (beg_take hg hx.len bx).symm
 rw [hd]
 have h1:Below w.heap.size w (w.alloc (.cells #[.int .u64 gen,.int .u64 1] 27)):=(Below.refl _ _).alloc (Nat.le_refl _) _
 have L1:=lit_row w 27 .u64 [gen,1] #[.int .u64 gen,.int .u64 1] w.heap.size (w.heap.size + 1) rfl rfl (Nat.lt_succ_self _)
 have h2:Below (w.alloc (.cells #[.int .u64 gen,.int .u64 1] 27)).heap.size (w.alloc (.cells #[.int .u64 gen,.int .u64 1] 27)) ((w.alloc (.cells #[.int .u64 gen,.int .u64 1] 27)).alloc (.cells #[.int .i64 8,.int .i64 1] 3)):=(Below.refl _ _).alloc (Nat.le_refl _) _
 have L2:=lit_row (w.alloc (.cells #[.int .u64 gen,.int .u64 1] 27)) 3 .i64 [8,1] #[.int .i64 8,.int .i64 1] (w.heap.size + 1) ((w.alloc (.cells #[.int .u64 gen,.int .u64 1] 27)).alloc (.cells #[.int .i64 8,.int .i64 1] 3)).heap.size rfl (by rw [World.size_alloc]) (by simp)
 have L1:=(L1.below (h2.mono (by simp))).more (B':=((w.alloc (.cells #[.int .u64 gen,.int .u64 1] 27)).alloc (.cells #[.int .i64 8,.int .i64 1] 3)).heap.size) (by simp)
 have hb:=h1.trans (h2.mono h1.size)
 obtain ⟨w1,hw1⟩:∃ y,y=(w.alloc (.cells #[.int .u64 gen,.int .u64 1] 27)).alloc (.cells #[.int .i64 8,.int .i64 1] 3):=⟨_,rfl⟩
 rw [← hw1] at L1 L2 hb
 have W1:=show ∀ z ∈ [gen,1],isWord z by
  intro z hz
  have h0:=hg.1
  have h9:=hg.2
  simp only [List.mem_cons,List.not_mem_nil,or_false] at hz
  unfold isWord
  rcases hz with rfl | rfl <;> omega
 have WR:=Lh (write_ok (some ⟨w.heap.size,0,none⟩) (some ⟨w.heap.size + 1,0,none⟩) 2 2 2 2 [gen,1] [8,1] w1 L2 rfl (by decide) L1 rfl rfl W1)
 have FT:=Lh (show fitsTo [gen,1] [8,1] [8,1].length=true from fits2 hg)
 have AX:=Lh (hx.below hb)
 have BX:=Lh bx
 have BB:=Lh hb
 have HD:=Lh (hdT_row gen)
 clear hd h1 L1 h2 L2 hb W1 hx bx hg
 go_enter Tryz.func129,Tryz.ntmps129
 go_wp2_with fail
 rw [← hw1]
 clear hw1
 refine WR.out.mono ?_
 intro e w2 hout
 obtain ⟨A2,c2,rfl,hown,hb⟩:=(WroteOut.yes hout FT.out).len (zs':=hdT gen) (n:=9) HD.out (hdT_length _)
 have PX:=Lh (phas_any A c x A2 c2 (hdT gen) w2 (AX.out.below hb) (Arg.own hown) BX.out (hdT_byte gen))
 have BB:=Lh (BB.out.trans (hb.mono BB.out.size))
 clear hout hown hb WR FT HD
 go_wp2_with fail
 refine PX.out.mono ?_
 rintro e w3 ⟨rfl,rfl⟩
 clear PX
 go_wp2
 go_ret
 exact ⟨rfl,BB.out⟩
theorem str_none {A:Int} {S:List Sec} {C:List Pnd} {m:Mt} {a k:Int} (h:optAt S C (2 + a * A + k)=none):strB A S C m a k=false:=by unfold strB;rw [h]
theorem str_some {A:Int} {S:List Sec} {C:List Pnd} {m:Mt} {a k:Int} {x:Txt} (h:optAt S C (2 + a * A + k)=some x):strB A S C m a k=(decide (begT m.s.2.2 x) || decide (begT (nextM m) x)):=by unfold strB;rw [h]
theorem pstray_any (P T A M W Q:Int) (D:Option Addr) (nd d:Nat) (D':Option Addr) (nd' d':Nat) (S:List Sec) (C:List Pnd) (v a g n u:Int) (B:Option Addr) (k c:Nat) (t:List Rc) (ar:Int) (j:Int) (w:World) (hq:Dsk w D nd d D' nd' d' S C) (hs:SmallD S C) (hm:mayC P T A M W Q) (hkm:mayM P T A M W Q ⟨(v,a,g),n,u,t⟩) (hi:isS (v,a,g)) (har:arJ ar) (hj:0≤j∧j < A) :
  Calls Tryz.prog 83 #[ldV P T A M W Q D nd d D' nd' d' v a g n u B k c,.int .i64 ar,.int .i64 j] w fun e w'=>e=.returned (.bool (strB A S C ⟨(v,a,g),n,u,t⟩ ar j))∧Below w.heap.size w w':=by
 obtain ⟨x,hbel⟩:=led_box w P T A M W Q D nd d D' nd' d' v a g n u B k c
 obtain ⟨w1,hw1⟩:∃ y,y=w.alloc (.cells #[.int .i64 P,.int .i64 T,.int .i64 A,.int .i64 M,.int .i64 W,.int .i64 Q,.slice D nd d,.slice D' nd' d',.int .u32 v,.int .i64 a,.int .u64 g,.int .i64 n,.int .i64 u,.slice B k c] 90):=⟨_,rfl⟩
 rw [← hw1] at x hbel
 have X:=Lh x
 have BB:=Lh hbel
 have DQ:=Lh (hq.below hbel)
 have hE:areE P T A M W Q ar j=0:=by
  unfold areE
  rw [if_pos hm,if_pos ⟨har.1,har.2,hj.1,by omega⟩]
 have hN:areN P T A M W Q ar j=2 + ar * A + j:=by
  unfold areN
  rw [if_pos hm,if_pos ⟨har.1,har.2,hj.1,by omega⟩]
 have AR:=Lh (fun wx=>parea_any P T A M W Q ar j wx)
 rw [hE,hN] at AR
 have RD:=Lh (fun wx hx=>dsk_does.read D nd d D' nd' d' S C (2 + ar * A + j) wx hx hs)
 unfold BytesOut at RD
 have hv0:0≤v∧v < 4294967296:=hi.1
 have hu0:0≤u∧u≤65535:=hkm.2.2.2.1
 have NX:=Lh (fun wx=>pnext_any P T A M W Q D nd d D' nd' d' v a g n u B k c wx hv0 hu0)
 have hg2:isG (65536 * v + u + 1):=⟨by omega,by omega⟩
 obtain ⟨at0,hat⟩:∃ y,y=2 + ar * A + j:=⟨_,rfl⟩
 obtain ⟨g2,hge⟩:∃ y,y=65536 * v + u + 1:=⟨_,rfl⟩
 have SN:=fun h=>str_none (A:=A) (S:=S) (C:=C) (m:=⟨(v,a,g),n,u,t⟩) (a:=ar) (k:=j) h
 have SS:=fun x h=>str_some (A:=A) (S:=S) (C:=C) (m:=⟨(v,a,g),n,u,t⟩) (a:=ar) (k:=j) (x:=x) h
 rw [show nextM ⟨(v,a,g),n,u,t⟩=g2 from hge.symm] at SS
 dsimp only at SS
 rw [← hat] at AR RD SN SS
 rw [← hge] at NX hg2
 obtain ⟨R,hR⟩:∃ y,y=strB A S C ⟨(v,a,g),n,u,t⟩ ar j:=⟨_,rfl⟩
 rw [← hR] at SN SS ⊢
 obtain ⟨E,hEE⟩:∃ y,y=rdE S C at0:=⟨_,rfl⟩
 obtain ⟨tx,htx⟩:∃ y,y=rdB S C at0:=⟨_,rfl⟩
 have hgood:=fun h=>rd_good (at_:=at0) h hq.secs.byte hq.pnds.byte
 have hopt:optAt S C at0=if E=0 then some tx else none:=by rw [hEE,htx];rfl
 rw [← hEE,← htx] at RD hgood
 obtain ⟨c0,c1,c2,c3,c4,c5,c6,c7,d0,d1,d2,d3,d4,d5⟩:=x.led
 clear x hbel hq hs hm hkm har hj hE hN hv0 hu0 hat hge hR hEE htx
 by_cases h0:E=0
 ·rw [if_pos h0] at hopt
  subst h0
  obtain ⟨hl,hby⟩:=hgood rfl
  have HG:=Lh (And.intro hl hby)
  have SR:=SS tx hopt
  rw [hl] at RD
  clear SN SS hopt hl hby hgood
  by_cases h1:begT g tx
  ·have hB:=decide_eq_true h1
   rw [hB,Bool.true_or] at SR
   subst SR
   go_enter Tryz.func83,Tryz.ntmps83
   go_wp2_with fail
   rw [← hw1]
   clear hw1
   refine (AR.out _).mono ?_
   rintro e w2 ⟨rfl,hb⟩
   have X:=Lh (X.out.below hb X.out.lt)
   have BB:=Lh (BB.out.trans (hb.mono BB.out.size))
   have DQ:=Lh (DQ.out.below hb)
   clear hb AR c0 c1 c2 c3 c4 c5 c6 c7 d0 d1 d2 d3 d4 d5
   obtain ⟨c0,c1,c2,c3,c4,c5,c6,c7,d0,d1,d2,d3,d4,d5⟩:=X.out.led
   go_wp2_with fail
   refine (RD.out _ DQ.out).mono ?_
   rintro e w3 ⟨A3,x3,rfl,hown,hb⟩
   have TX:=Lh (Arg.own hown)
   have X:=Lh (X.out.below hb X.out.lt)
   have BB:=Lh (BB.out.trans (hb.mono BB.out.size))
   clear hown hb RD c0 c1 c2 c3 c4 c5 c6 c7 d0 d1 d2 d3 d4 d5
   obtain ⟨c0,c1,c2,c3,c4,c5,c6,c7,d0,d1,d2,d3,d4,d5⟩:=X.out.led
   go_wp2_with fail
   refine (pbeg_any A3 x3 tx g _ TX.out HG.out.2 hi.2).mono ?_
   rw [hB]
   rintro e w4 ⟨rfl,hb⟩
   have X:=Lh (X.out.below hb X.out.lt)
   have BB:=Lh (BB.out.trans (hb.mono BB.out.size))
   have TX:=Lh (TX.out.below hb)
   clear hb hB h1 c0 c1 c2 c3 c4 c5 c6 c7 d0 d1 d2 d3 d4 d5
   obtain ⟨c0,c1,c2,c3,c4,c5,c6,c7,d0,d1,d2,d3,d4,d5⟩:=X.out.led
   go_wp2
   go_ret
   exact ⟨rfl,BB.out⟩
  ·have hB:=decide_eq_false h1
   rw [hB,Bool.false_or] at SR
   subst SR
   go_enter Tryz.func83,Tryz.ntmps83
   go_wp2_with fail
   rw [← hw1]
   clear hw1
   refine (AR.out _).mono ?_
   rintro e w2 ⟨rfl,hb⟩
   have X:=Lh (X.out.below hb X.out.lt)
   have BB:=Lh (BB.out.trans (hb.mono BB.out.size))
   have DQ:=Lh (DQ.out.below hb)
   clear hb AR c0 c1 c2 c3 c4 c5 c6 c7 d0 d1 d2 d3 d4 d5
   obtain ⟨c0,c1,c2,c3,c4,c5,c6,c7,d0,d1,d2,d3,d4,d5⟩:=X.out.led
   go_wp2_with fail
   refine (RD.out _ DQ.out).mono ?_
   rintro e w3 ⟨A3,x3,rfl,hown,hb⟩
   have TX:=Lh (Arg.own hown)
   have X:=Lh (X.out.below hb X.out.lt)
   have BB:=Lh (BB.out.trans (hb.mono BB.out.size))
   clear hown hb RD c0 c1 c2 c3 c4 c5 c6 c7 d0 d1 d2 d3 d4 d5
   obtain ⟨c0,c1,c2,c3,c4,c5,c6,c7,d0,d1,d2,d3,d4,d5⟩:=X.out.led
   go_wp2_with fail
   refine (pbeg_any A3 x3 tx g _ TX.out HG.out.2 hi.2).mono ?_
   rw [hB]
   rintro e w4 ⟨rfl,hb⟩
   have X:=Lh (X.out.below hb X.out.lt)
   have BB:=Lh (BB.out.trans (hb.mono BB.out.size))
   have TX:=Lh (TX.out.below hb)
   clear hb hB h1 c0 c1 c2 c3 c4 c5 c6 c7 d0 d1 d2 d3 d4 d5
   obtain ⟨c0,c1,c2,c3,c4,c5,c6,c7,d0,d1,d2,d3,d4,d5⟩:=X.out.led
   go_wp2_with fail
   refine (NX.out _).mono ?_
   rintro e w5 ⟨rfl,hb⟩
   have BB:=Lh (BB.out.trans (hb.mono BB.out.size))
   have TX:=Lh (TX.out.below hb)
   clear hb NX c0 c1 c2 c3 c4 c5 c6 c7 d0 d1 d2 d3 d4 d5
   go_wp2_with fail
   refine (pbeg_any A3 x3 tx g2 _ TX.out HG.out.2 hg2).mono ?_
   rintro e w6 ⟨rfl,hb⟩
   have BB:=Lh (BB.out.trans (hb.mono BB.out.size))
   clear hb
   go_wp2
   go_ret
   exact ⟨rfl,BB.out⟩
 ·rw [if_neg h0] at hopt
  have SR:=SN hopt
  subst SR
  have hz:(E == 0)=false:=beq_eq_false_iff_ne.2 h0
  clear SN SS hopt hgood h0
  go_enter Tryz.func83,Tryz.ntmps83
  go_wp2_with fail
  rw [← hw1]
  clear hw1
  refine (AR.out _).mono ?_
  rintro e w2 ⟨rfl,hb⟩
  have X:=Lh (X.out.below hb X.out.lt)
  have BB:=Lh (BB.out.trans (hb.mono BB.out.size))
  have DQ:=Lh (DQ.out.below hb)
  clear hb AR c0 c1 c2 c3 c4 c5 c6 c7 d0 d1 d2 d3 d4 d5
  obtain ⟨c0,c1,c2,c3,c4,c5,c6,c7,d0,d1,d2,d3,d4,d5⟩:=X.out.led
  go_wp2_with fail
  refine (RD.out _ DQ.out).mono ?_
  rintro e w3 ⟨A3,x3,rfl,hown,hb⟩
  have TX:=Lh (Arg.own hown)
  have X:=Lh (X.out.below hb X.out.lt)
  have BB:=Lh (BB.out.trans (hb.mono BB.out.size))
  clear hown hb RD c0 c1 c2 c3 c4 c5 c6 c7 d0 d1 d2 d3 d4 d5
  obtain ⟨c0,c1,c2,c3,c4,c5,c6,c7,d0,d1,d2,d3,d4,d5⟩:=X.out.led
  go_wp2
  go_ret
  exact ⟨rfl,BB.out⟩
theorem Blk.two_ {w:World} {G:Nat} {t:TypeId} {x y:Value} (h:Blk w G t [x,y]):w.cell? ⟨G,0,none⟩=some x∧w.cell? ⟨G,1,none⟩=some y:=⟨h.cell 0,h.cell 1⟩
theorem OwnRecs.boxD {w:World} {base H:Nat} {A:Option Addr} {n c:Nat} {L:List Rc} {cs:List Value} (h:OwnRecs w base A n c L) (hb:Blk w H 25 cs) (i:Nat) (u:Value):OwnRecs (w.setCell ⟨H,i,none⟩ u) base A n c L :=
 h.keep fun g cs' _ hc=>Below.heap_setCell w _ u g fun e2=>by
  have e3:g=H:=e2
  subst e3
  unfold Blk at hb
  rw [hb] at hc
  simp at hc
theorem Blk.sixOff {w:World} {H G:Nat} {t:TypeId} {cs:List Value} (h:Blk w H t cs) (hne:H≠G) (v a g n u:Int) (B:Option Addr) (k c:Nat):Blk ((((((w.setCell ⟨G,0,none⟩ (.int .u32 v)).setCell ⟨G,1,none⟩ (.int .i64 a)).setCell ⟨G,2,none⟩ (.int .u64 g)).setCell ⟨G,3,none⟩ (.int .i64 n)).setCell ⟨G,4,none⟩ (.int .i64 u)).setCell ⟨G,5,none⟩ (.slice B k c)) H t cs :=
 (((((h.away hne 0 _).away hne 1 _).away hne 2 _).away hne 3 _).away hne 4 _).away hne 5 _
theorem OwnDsk.boxM {w:World} {base H:Nat} {A A':Option Addr} {n c n' c':Nat} {S:List Sec} {C:List Pnd} {cs:List Value} (h:OwnDsk w base A n c A' n' c' S C) (hb:Blk w H 32 cs) (i:Nat) (u:Value):OwnDsk (w.setCell ⟨H,i,none⟩ u) base A n c A' n' c' S C :=
 ⟨h.secs.box hb (by decide) (by decide) i u,h.pnds.box hb (by decide) (by decide) i u⟩
theorem OwnDsk.sixM {w:World} {base H:Nat} {A A':Option Addr} {m d m' d':Nat} {S:List Sec} {C:List Pnd} {v' a' g' n' u':Int} {B':Option Addr} {k' c':Nat} (h:OwnDsk w base A m d A' m' d' S C) (hb:Blk w H 32 (metL v' a' g' n' u' B' k' c')) (v a g n u:Int) (B:Option Addr) (k c:Nat):OwnDsk ((((((w.setCell ⟨H,0,none⟩ (.int .u32 v)).setCell ⟨H,1,none⟩ (.int .i64 a)).setCell ⟨H,2,none⟩ (.int .u64 g)).setCell ⟨H,3,none⟩ (.int .i64 n)).setCell ⟨H,4,none⟩ (.int .i64 u)).setCell ⟨H,5,none⟩ (.slice B k c)) base A m d A' m' d' S C :=
 (((((h.boxM hb 0 _).boxM (hb.set 0 _) 1 _).boxM ((hb.set 0 _).set 1 _) 2 _).boxM (((hb.set 0 _).set 1 _).set 2 _) 3 _).boxM ((((hb.set 0 _).set 1 _).set 2 _).set 3 _) 4 _).boxM (((((hb.set 0 _).set 1 _).set 2 _).set 3 _).set 4 _) 5 _
theorem OwnActs.boxM {w:World} {base H:Nat} {A:Option Addr} {n c:Nat} {l:List Ac} {cs:List Value} (h:OwnActs w base A n c l) (hb:Blk w H 32 cs) (i:Nat) (u:Value):OwnActs (w.setCell ⟨H,i,none⟩ u) base A n c l :=
 h.keep fun g e cs' he _ hc=>Below.heap_setCell w _ u g fun e2=>by
  have e3:g=H:=e2
  subst e3
  unfold Blk at hb
  rw [hb] at hc
  rcases he with rfl | rfl <;> simp at hc
theorem OwnActs.boxSix {w:World} {base H:Nat} {A:Option Addr} {m d:Nat} {l:List Ac} {v' a' g' n' u':Int} {B':Option Addr} {k' c':Nat} (h:OwnActs w base A m d l) (hb:Blk w H 32 (metL v' a' g' n' u' B' k' c')) (v a g n u:Int) (B:Option Addr) (k c:Nat):OwnActs ((((((w.setCell ⟨H,0,none⟩ (.int .u32 v)).setCell ⟨H,1,none⟩ (.int .i64 a)).setCell ⟨H,2,none⟩ (.int .u64 g)).setCell ⟨H,3,none⟩ (.int .i64 n)).setCell ⟨H,4,none⟩ (.int .i64 u)).setCell ⟨H,5,none⟩ (.slice B k c)) base A m d l :=
 (((((h.boxM hb 0 _).boxM (hb.set 0 _) 1 _).boxM ((hb.set 0 _).set 1 _) 2 _).boxM (((hb.set 0 _).set 1 _).set 2 _) 3 _).boxM ((((hb.set 0 _).set 1 _).set 2 _).set 3 _) 4 _).boxM (((((hb.set 0 _).set 1 _).set 2 _).set 3 _).set 4 _) 5 _
def lst (listed:Array Bool) (i:Nat):Bool:=listed.getD i false
def depsB (ops:Array Oper) (f:Nat→Bool) (i:Nat):Bool:=((ops[i]?).map fun o=>o.after.all fun e=>!Region.binds .any e || f e.on).getD false
def StepJ (P:Program) (ops:Array Oper) (Q:Exit→Act→World→Prop) (J:(Nat→Bool)→Act→World→Prop) (i:Nat):Prop :=
 match ops[i]? with
 | none=>False
 | some o=>∀ (f:Nat→Bool) (a:Act) (w:World),J f a w→f i=false→depsB ops f i=true →
   ∀ K':Act→World→Prop,(∀ a' w',J (fun j=>if j=i then true else f j) a' w'→K' a' w')→if Region.wanted o (yielded ops a.tmps)=true then Oper.wp P o a w K' Q else K' (a.put o.dst undef) w
def StepsJ (P:Program) (ops:Array Oper) (Q:Exit→Act→World→Prop) (J:(Nat→Bool)→Act→World→Prop):Nat→Prop
 | 0=>True
 | n + 1=>StepsJ P ops Q J n∧StepJ P ops Q J n
theorem StepsJ.at_ {P:Program} {ops:Array Oper} {Q:Exit→Act→World→Prop} {J:(Nat→Bool)→Act→World→Prop}:∀ {n:Nat},StepsJ P ops Q J n→∀ {i:Nat},i < n→StepJ P ops Q J i
 | 0,_,_,hi=>absurd hi (Nat.not_lt_zero _)
 | n + 1,h,i,hi=>by
  rcases Nat.lt_succ_iff_lt_or_eq.1 hi with hl | rfl
  ·exact StepsJ.at_ h.1 hl
  ·exact h.2
def preB (ops:Array Oper):Nat→Nat→Nat→Bool
 | 0,_,_=>false
 | n + 1,i,j=>((ops[i]?).map fun o=>o.after.any fun e=>Region.binds .any e && (e.on == j || preB ops n e.on j)).getD false
def tailB (ops:Array Oper) (st:Nat):Bool:=(List.range ops.size).all fun i=>((decide (i < st)) || (List.range st).all fun j=>preB ops ops.size i j) && ((ops[i]?).map fun o=>o.after.all fun e=>!Region.binds .any e || decide (e.on < i)).getD false
def uptoA (ops:Array Oper) (st:Nat):Array Bool:=((List.range ops.size).map fun i=>decide (i < st)).toArray
theorem pre_listed {ops:Array Oper} {f:Nat→Bool} (hc:∀ i,f i=true→depsB ops f i=true):∀ (n i j:Nat),preB ops n i j=true→depsB ops f i=true→f j=true
 | 0,_,_,h,_=>by cases h
 | n + 1,i,j,h,hd=>by
  unfold preB at h
  unfold depsB at hd
  cases ho:ops[i]? with
  | none=>rw [ho] at h;cases h
  | some o =>
   rw [ho] at h hd
   simp only [Option.map_some,Option.getD_some,Array.any_eq_true,Bool.and_eq_true,Bool.or_eq_true,beq_iff_eq] at h
   simp only [Option.map_some,Option.getD_some,Array.all_eq_true,Bool.or_eq_true,Bool.not_eq_true'] at hd
   obtain ⟨k,hk,hb,hj⟩:=h
   have hfk:f (o.after[k]).on=true:=by
    rcases hd k hk with h1 | h1
    ·rw [hb] at h1;cases h1
    ·exact h1
   rcases hj with e | hp
   ·rw [← e];exact hfk
   ·exact pre_listed hc n _ j hp (hc _ hfk)
theorem deps_mono {ops:Array Oper} {f f':Nat→Bool} (h:∀ i,f i=true→f' i=true) {i:Nat} (hd:depsB ops f i=true):depsB ops f' i=true:=by
 unfold depsB at hd ⊢
 cases ho:ops[i]? with
 | none=>rw [ho] at hd;cases hd
 | some o =>
  rw [ho] at hd
  simp only [Option.map_some,Option.getD_some,Array.all_eq_true,Bool.or_eq_true,Bool.not_eq_true'] at hd ⊢
  exact fun k hk=>(hd k hk).imp id (h _)
theorem ready_iff {ops:Array Oper} {listed:Array Bool} (hs:listed.size=ops.size) {i:Nat}:i ∈ Region.ready .any ops listed↔i < ops.size∧lst listed i=false∧depsB ops (lst listed) i=true:=by
 unfold Region.ready lst depsB
 rw [List.mem_filter,List.mem_range,Bool.and_eq_true,Bool.not_eq_true']
 constructor
 ·rintro ⟨h1,h2,h3⟩
  refine ⟨h1,?_,h3⟩
  rw [Array.getD_eq_getD_getElem?,Array.getElem?_eq_getElem (by omega)] at h2 ⊢
  exact h2
 ·rintro ⟨h1,h2,h3⟩
  refine ⟨h1,?_,h3⟩
  rw [Array.getD_eq_getD_getElem?,Array.getElem?_eq_getElem (by omega)] at h2 ⊢
  exact h2
theorem lst_set {listed:Array Bool} {i:Nat} (hi:i < listed.size):lst (listed.setIfInBounds i true)=fun j=>if j=i then true else lst listed j:=by
 funext j
 unfold lst
 rw [Array.getD_eq_getD_getElem?,Array.getElem?_setIfInBounds]
 by_cases h:i=j
 ·subst h
  rw [if_pos rfl,if_pos hi,if_pos rfl]
  rfl
 ·rw [if_neg h,if_neg (fun e=>h e.symm),Array.getD_eq_getD_getElem?]
def cntF (f:Nat→Bool):Nat→Nat
 | 0=>0
 | n + 1=>cntF f n + (if f n=true then 1 else 0)
theorem cntF_le (f:Nat→Bool):∀ n,cntF f n≤n
 | 0=>Nat.le_refl _
 | n + 1=>by
  have:=cntF_le f n
  unfold cntF
  split <;> omega
theorem cntF_lt {f:Nat→Bool}:∀ {n:Nat},¬ (∀ j,j < n→f j=true)→cntF f n < n
 | 0,h=>absurd (fun j hj=>absurd hj (Nat.not_lt_zero _)) h
 | n + 1,h=>by
  unfold cntF
  by_cases hn:f n=true
  ·rw [if_pos hn]
   have:=cntF_lt (n:=n) fun hall=>h fun j hj=>by
    rcases Nat.lt_succ_iff_lt_or_eq.1 hj with hl | rfl
    ·exact hall j hl
    ·exact hn
   omega
  ·rw [if_neg hn]
   have:=cntF_le f n
   omega
theorem cntF_set {f:Nat→Bool} {i:Nat} (hf:f i=false):∀ {n:Nat},cntF (fun j=>if j=i then true else f j) n=cntF f n + (if i < n then 1 else 0)
 | 0=>rfl
 | n + 1=>by
  unfold cntF
  rw [cntF_set hf]
  by_cases h1:i < n
  ·rw [if_pos h1,if_pos (by omega:i < n + 1),if_neg (by omega:¬ n=i)]
   omega
  ·rw [if_neg h1]
   by_cases h2:n=i
   ·subst h2
    rw [if_pos (by omega:n < n + 1),if_pos rfl,hf]
    simp
   ·rw [if_neg (by omega:¬ i < n + 1),if_neg h2,Nat.add_zero,Nat.add_zero]
theorem least_not {f:Nat→Bool}:∀ {n:Nat},¬ (∀ j,j < n→f j=true)→∃ j,j < n∧f j=false∧∀ k,k < j→f k=true
 | 0,h=>absurd (fun j hj=>absurd hj (Nat.not_lt_zero _)) h
 | n + 1,h=>by
  by_cases hall:∀ j,j < n→f j=true
  ·refine ⟨n,Nat.lt_succ_self n,?_,hall⟩
   cases hn:f n with
   | false=>rfl
   | true=>exact absurd (fun j hj=>by rcases Nat.lt_succ_iff_lt_or_eq.1 hj with hl | rfl;exact hall j hl;exact hn) h
  ·obtain ⟨j,h1,h2,h3⟩:=least_not hall
   exact ⟨j,by omega,h2,h3⟩
theorem upto_of {ops:Array Oper} {listed:Array Bool} {st:Nat} (hs:listed.size=ops.size) (h1:∀ j,j < st→lst listed j=true) (h2:∀ j,st≤j→lst listed j=false):listed=uptoA ops st:=by
 apply Array.ext_getElem?
 intro i
 by_cases hi:i < ops.size
 ·have e:lst listed i=listed[i]'(by omega):=by
   unfold lst
   rw [Array.getD_eq_getD_getElem?,Array.getElem?_eq_getElem (by omega)]
   rfl
  have e2:(uptoA ops st)[i]?=some (decide (i < st)):=by simp [uptoA,hi]
  rw [e2,Array.getElem?_eq_getElem (by omega),← e]
  by_cases hst:i < st
  ·rw [h1 i hst,decide_eq_true hst]
  ·rw [h2 i (by omega),decide_eq_false hst]
 ·rw [Array.getElem?_eq_none (by omega),Array.getElem?_eq_none (by simp [uptoA];omega)]
section
variable {P:Program} {ops:Array Oper} {Q:Exit→Act→World→Prop} {J:(Nat→Bool)→Act→World→Prop} {st:Nat}
theorem wpAny_upto' (hst:st≤ops.size) (ht:tailB ops st=true) (hsteps:StepsJ P ops Q J st)
  (hgo:∀ f a w,(∀ j,j < st→f j=true)→J f a w→∀ fuel,wpAny P .any ops Q (fuel + (ops.size - st)) (uptoA ops st) a w) :
  ∀ (fuel:Nat) (listed:Array Bool) (a:Act) (w:World),listed.size=ops.size→(∀ i,lst listed i=true→depsB ops (lst listed) i=true)→(∀ j,st≤j→lst listed j=false)→ops.size≤fuel + cntF (lst listed) st→J (lst listed) a w→wpAny P .any ops Q fuel listed a w:=by
 intro fuel
 induction fuel with
 | zero =>
  intro listed a w hs hc hno hf hJ
  have hall:∀ j,j < st→lst listed j=true:=Classical.byContradiction fun hn=>by
   have:=cntF_lt hn
   omega
  have:=hgo _ a w hall hJ 0
  have hss:ops.size - st=0:=by
   have:=cntF_le (lst listed) st
   omega
  rw [hss] at this
  rw [upto_of hs hall hno]
  exact this
 | succ fuel ih =>
  intro listed a w hs hc hno hf hJ
  by_cases hall:∀ j,j < st→lst listed j=true
  ·have h1:=hgo _ a w hall hJ (fuel + 1 - (ops.size - st))
   have h2:=cntF_le (lst listed) st
   rw [show fuel + 1 - (ops.size - st) + (ops.size - st)=fuel + 1 by omega] at h1
   rw [upto_of hs hall hno]
   exact h1
  ·unfold tailB at ht
   rw [List.all_eq_true] at ht
   refine ⟨fun h0=>?_,fun i hi=>?_⟩
   ·obtain ⟨j,hj,hfj,hlow⟩:=least_not hall
    have h3:=ht j (List.mem_range.2 (by omega))
    rw [Bool.and_eq_true] at h3
    have hd:depsB ops (lst listed) j=true:=by
     have h4:=h3.2
     unfold depsB
     cases ho:ops[j]? with
     | none=>rw [ho] at h4;cases h4
     | some o =>
      rw [ho] at h4
      simp only [Option.map_some,Option.getD_some,Array.all_eq_true,Bool.or_eq_true,Bool.not_eq_true',decide_eq_true_eq] at h4 ⊢
      exact fun k hk=>(h4 k hk).imp id (hlow _)
    have:j ∈ Region.ready .any ops listed:=(ready_iff hs).2 ⟨by omega,hfj,hd⟩
    rw [h0] at this
    cases this
   ·obtain ⟨h1,h2,h3⟩:=(ready_iff hs).1 hi
    have hist:i < st:=by
     rcases Nat.lt_or_ge i st with h | h
     ·exact h
     ·have h4:=ht i (List.mem_range.2 h1)
      rw [Bool.and_eq_true,decide_eq_false (by omega:¬ i < st),Bool.false_or,List.all_eq_true] at h4
      exact absurd (fun j hj=>pre_listed hc _ i j (h4.1 j (List.mem_range.2 hj)) h3) hall
    have hstep:=hsteps.at_ hist
    unfold StepJ at hstep
    cases ho:ops[i]? with
    | none=>rw [Array.getElem?_eq_getElem h1] at ho;cases ho
    | some o =>
     rw [ho] at hstep
     refine wpOp_step ho fun K' hK=>hstep (lst listed) a w hJ h2 h3 K' fun a' w' hJ'=>hK a' w' ?_
     have hl:=lst_set (listed:=listed) (i:=i) (by omega)
     refine ih _ a' w' (by simp [hs]) ?_ ?_ ?_ (by rw [hl];exact hJ')
     ·rw [hl]
      intro k hk
      have mono:∀ k,lst listed k=true→(if k=i then true else lst listed k)=true:=fun k hk=>by
       split
       ·rfl
       ·exact hk
      dsimp only at hk
      split at hk
      ·rename_i e
       subst e
       exact deps_mono mono h3
      ·exact deps_mono mono (hc k hk)
     ·rw [hl]
      intro k hk
      dsimp only
      rw [if_neg (by omega)]
      exact hno k hk
     ·rw [hl,cntF_set h2,if_pos hist]
      omega
theorem wp_region_upto {id:Nat} {a:Act} {w:World} (hm:P.follows .mixedOrders=true) (st:Nat) (J:(Nat→Bool)→Act→World→Prop) (hst:st≤ops.size) (ht:tailB ops st=true) (h0:J (fun _=>false) a w.drew) (hsteps:StepsJ P ops Q J st)
  (hgo:∀ f a w,(∀ j,j < st→f j=true)→J f a w→∀ fuel,wpAny P .any ops Q (fuel + (ops.size - st)) (uptoA ops st) a w):(Code.region id ops true).wp P Q a w:=by
 have hl:lst (Array.replicate ops.size false)=fun _=>false:=by
  funext j
  unfold lst
  rw [Array.getD_eq_getD_getElem?,Array.getElem?_replicate]
  split <;> rfl
 refine wp_region_any hm (wpAny_upto' hst ht hsteps hgo _ _ _ _ (by simp) ?_ ?_ (Nat.le_add_right _ _) (by rw [hl];exact h0))
 ·rw [hl]
  intro i h
  cases h
 ·rw [hl]
  intro j _
  rfl
theorem wp_region_upto2 {id:Nat} {a:Act} {w:World} (hm:P.follows .mixedOrders=true) (st:Nat) (J:Act→(Nat→Bool)→Act→World→Prop) (hst:st≤ops.size) (ht:tailB ops st=true) (h0:J a (fun _=>false) a w.drew) (hsteps:StepsJ P ops Q (J a) st)
  (hgo:∀ f a' w',(∀ j,j < st→f j=true)→J a f a' w'→∀ fuel,wpAny P .any ops Q (fuel + (ops.size - st)) (uptoA ops st) a' w'):(Code.region id ops true).wp P Q a w:=wp_region_upto hm st (J a) hst ht h0 hsteps hgo
theorem deps_at {f:Nat→Bool} {i k:Nat} {o:Oper} {e:Edge} (ho:ops[i]?=some o) (he:o.after[k]?=some e) (hb:Region.binds .any e=true) (hd:depsB ops f i=true):f e.on=true:=by
 unfold depsB at hd
 rw [ho] at hd
 simp only [Option.map_some,Option.getD_some,Array.all_eq_true,Bool.or_eq_true,Bool.not_eq_true'] at hd
 obtain ⟨hk,rfl⟩:=Array.getElem?_eq_some_iff.1 he
 rcases hd k hk with h | h
 ·rw [hb] at h;cases h
 ·exact h
theorem more_of {f:Nat→Bool} {i j:Nat} (hne:j≠i) (h:(if j=i then true else f j)=true):f j=true:=by rwa [if_neg hne] at h
theorem less_of {f:Nat→Bool} {i j:Nat} (hne:j≠i) (h:(if j=i then true else f j)=false):f j=false:=by rwa [if_neg hne] at h
theorem keep_of {f:Nat→Bool} {i j:Nat} (h:f j=true):(if j=i then true else f j)=true:=by
 split
 ·rfl
 ·exact h
end
def stM (w w':World):Prop:=∃ (H:Nat) (v' a' g' n' u':Int) (B':Option Addr) (k' c':Nat) (v a g n u:Int) (B:Option Addr) (k c:Nat),Blk w H 32 (metL v' a' g' n' u' B' k' c')∧w'=((((((w.setCell ⟨H,0,none⟩ (.int .u32 v)).setCell ⟨H,1,none⟩ (.int .i64 a)).setCell ⟨H,2,none⟩ (.int .u64 g)).setCell ⟨H,3,none⟩ (.int .i64 n)).setCell ⟨H,4,none⟩ (.int .i64 u)).setCell ⟨H,5,none⟩ (.slice B k c))
theorem stM.six {w:World} {H:Nat} {v' a' g' n' u':Int} {B':Option Addr} {k' c':Nat} (h:Blk w H 32 (metL v' a' g' n' u' B' k' c')) (v a g n u:Int) (B:Option Addr) (k c:Nat):stM w ((((((w.setCell ⟨H,0,none⟩ (.int .u32 v)).setCell ⟨H,1,none⟩ (.int .i64 a)).setCell ⟨H,2,none⟩ (.int .u64 g)).setCell ⟨H,3,none⟩ (.int .i64 n)).setCell ⟨H,4,none⟩ (.int .i64 u)).setCell ⟨H,5,none⟩ (.slice B k c)):=⟨H,v',a',g',n',u',B',k',c',v,a,g,n,u,B,k,c,h,rfl⟩
def stN (_ _:World):Prop:=False
structure Cl (St:World→World→Prop) where
 p:Value→World→Prop
 below:∀ {v:Value} {w w':World},Below w.heap.size w w'→p v w→p v w'
 sto:∀ {v:Value} {w w':World},St w w'→p v w→p v w'
section
variable {t:World→World→Prop}
def Cl.any:Cl t:=⟨fun _ _=>True,fun _ _=>trivial,fun _ _=>trivial⟩
def Cl.is (v0:Value):Cl t:=⟨fun v _=>v=v0,fun _ h=>h,fun _ h=>h⟩
theorem stepT {tb:List (Cl t)} {f:Nat→Bool} {w w':World} (l:List Value) (i:Nat) (v:Value) (h:∀ j,f j=true→(tb.getD j Cl.any).p (l.getD j undef) w) (hm:∀ (c:Cl t) (u:Value),c.p u w→c.p u w') (hi:i < l.length) (hv:(tb.getD i Cl.any).p v w'):∀ j,(if j=i then true else f j)=true→(tb.getD j Cl.any).p ((l.set i v).getD j undef) w':=by
 intro j hj
 by_cases e:j=i
 ·subst e
  rw [gtD (l:=l.set j v),List.getElem?_set_self hi]
  exact hv
 ·rw [if_neg e] at hj
  rw [gtD (l:=l.set i v),List.getElem?_set_ne (fun k=>e k.symm),← gtD]
  exact hm _ _ (h j hj)
theorem stepP {tb:List (Cl t)} {f:Nat→Bool} {w:World} (l:List Value) (i:Nat) (v:Value) (h:∀ j,f j=true→(tb.getD j Cl.any).p (l.getD j undef) w) (hi:i < l.length) (hv:(tb.getD i Cl.any).p v w):∀ j,(if j=i then true else f j)=true→(tb.getD j Cl.any).p ((l.set i v).getD j undef) w:=stepT l i v h (fun _ _ k=>k) hi hv
theorem stepB {tb:List (Cl t)} {f:Nat→Bool} {w w':World} (l:List Value) (i:Nat) (v:Value) (hb:Below w.heap.size w w') (h:∀ j,f j=true→(tb.getD j Cl.any).p (l.getD j undef) w) (hi:i < l.length) (hv:(tb.getD i Cl.any).p v w'):∀ j,(if j=i then true else f j)=true→(tb.getD j Cl.any).p ((l.set i v).getD j undef) w':=stepT l i v h (fun c _ k=>c.below hb k) hi hv
end
section
variable {t:TypeId}
def BoxS (ia is base:Nat) (t:TypeId) (zero:List Value) (F:World→Nat→Prop) (f:Nat→Bool) (x:Value) (w:World):Prop :=
 (f is=true→f ia=true)∧(f ia=true→∃ h:Nat,x=.pointer (some ⟨h,0,none⟩)∧base≤h∧(f is=false→Blk w h t zero)∧(f is=true→F w h))
section
variable {ia is base i:Nat} {zero:List Value} {F:World→Nat→Prop} {f:Nat→Bool} {x:Value} {w w':World}
theorem BoxS.start:BoxS ia is base t zero F (fun _=>false) x w:=⟨fun h=>(by cases h),fun h=>(by cases h)⟩
theorem BoxS.grow (h:BoxS ia is base t zero F f x w) (h1:ia≠i) (h2:is≠i) (hb:Below w.heap.size w w') (hF:∀ g,F w g→F w' g):BoxS ia is base t zero F (fun j=>if j=i then true else f j) x w':=by
 refine ⟨fun k=>?_,fun k=>?_⟩
 ·dsimp only at k ⊢
  rw [if_neg h1]
  rw [if_neg h2] at k
  exact h.1 k
 ·dsimp only at k ⊢
  rw [if_neg h1] at k
  rw [if_neg h2]
  obtain ⟨g,q1,q2,q3,q4⟩:=h.2 k
  exact ⟨g,q1,q2,fun k2=>(q3 k2).below hb (q3 k2).lt,fun k2=>hF g (q4 k2)⟩
theorem BoxS.pure (h:BoxS ia is base t zero F f x w) (h1:ia≠i) (h2:is≠i):BoxS ia is base t zero F (fun j=>if j=i then true else f j) x w:=h.grow h1 h2 (Below.refl _ _) fun _ k=>k
theorem BoxS.alloc (h:BoxS ia is base t zero F f x w) (hf:f ia=false) (hne:is≠ia) (hb:base≤w.heap.size):BoxS ia is base t zero F (fun j=>if j=ia then true else f j) (.pointer (some ⟨w.heap.size,0,none⟩)) (w.alloc (.cells zero.toArray t)):=by
 refine ⟨fun _=>if_pos rfl,fun _=>⟨_,rfl,hb,fun _=>Blk.new w t zero,fun k=>?_⟩⟩
 dsimp only at k
 rw [if_neg hne] at k
 have:=h.1 k
 rw [hf] at this
 cases this
theorem BoxS.store (h:BoxS ia is base t zero F f x w) (ha:f ia=true) (hne:ia≠is) (hF:∀ g,x=.pointer (some ⟨g,0,none⟩)→F w' g):BoxS ia is base t zero F (fun j=>if j=is then true else f j) x w':=by
 refine ⟨fun _=>?_,fun _=>?_⟩
 ·dsimp only
  rw [if_neg hne]
  exact ha
 ·obtain ⟨g,q1,q2,_,_⟩:=h.2 ha
  refine ⟨g,q1,q2,fun k=>?_,fun _=>hF g q1⟩
  dsimp only at k
  rw [if_pos rfl] at k
  cases k
end
end
def clRecs (mk:Option Addr→Nat→Value) (base k:Nat) (r:List Rc):Cl stM :=
 ⟨fun v w=>∃ A c,v=mk A c∧OwnRecs w base A k c r,fun hb h=>by obtain ⟨A,c,e,h⟩:=h;exact ⟨A,c,e,h.below hb⟩,fun hs h=>by obtain ⟨A,c,e,h⟩:=h;obtain ⟨_,_,_,_,_,_,_,_,_,_,_,_,_,_,_,_,_,hb,rfl⟩:=hs;exact ⟨A,c,e,h.boxSix hb _ _ _ _ _ _ _ _⟩⟩
def clActs (mk:Option Addr→Nat→Value) (base k:Nat) (l:List Ac):Cl stM :=
 ⟨fun v w=>∃ A c,v=mk A c∧OwnActs w base A k c l,fun hb h=>by obtain ⟨A,c,e,h⟩:=h;exact ⟨A,c,e,h.below hb⟩,fun hs h=>by obtain ⟨A,c,e,h⟩:=h;obtain ⟨_,_,_,_,_,_,_,_,_,_,_,_,_,_,_,_,_,hb,rfl⟩:=hs;exact ⟨A,c,e,h.boxSix hb _ _ _ _ _ _ _ _⟩⟩
def clPlan (mk:Option Addr→Nat→Option Addr→Nat→Value) (base k:Nat) (r:List Rc) (nl:Nat) (l:List Ac):Cl stM :=
 ⟨fun v w=>∃ A c A' c',v=mk A c A' c'∧OwnRecs w base A k c r∧OwnActs w base A' nl c' l,fun hb h=>by obtain ⟨A,c,A',c',e,h1,h2⟩:=h;exact ⟨A,c,A',c',e,h1.below hb,h2.below hb⟩,fun hs h=>by obtain ⟨A,c,A',c',e,h1,h2⟩:=h;obtain ⟨_,_,_,_,_,_,_,_,_,_,_,_,_,_,_,_,_,hb,rfl⟩:=hs;exact ⟨A,c,A',c',e,h1.boxSix hb _ _ _ _ _ _ _ _,h2.boxSix hb _ _ _ _ _ _ _ _⟩⟩
def clArg (mk:Option Addr→Nat→Value) (n:Nat) (zs:Txt):Cl stM :=
 ⟨fun v w=>∃ A c,v=mk A c∧Arg w .u8 A n c zs,fun hb h=>by obtain ⟨A,c,e,h⟩:=h;exact ⟨A,c,e,h.below hb⟩,fun hs h=>by obtain ⟨A,c,e,h⟩:=h;obtain ⟨_,_,_,_,_,_,_,_,_,_,_,_,_,_,_,_,_,hb,rfl⟩:=hs;exact ⟨A,c,e,Arg.offM hb (grown_six _ _ _ _ _ _ _ _ _ _) h⟩⟩
section
variable {t:TypeId} {is H i:Nat} {old:List Value} {F:World→Prop} {f:Nat→Bool} {w w':World}
end
end Go.Proofs.YtifgcfepbenpjaaGreat
