/- Texts of the layers below, joined. -/
import Derived.Test.YtdbeiikaeccbhaaDa16
import Derived.Test.YtdbeiikaeccbhaaDa24
import Derived.Deep.CutBlock
import Derived.Deep.RegionHeld3
import Derived.Deep.RegionWith
import Derived.Deep.Cut
import Derived.Deep.CutRange
import Derived.Lib.SlBytesConst
import Derived.Lib.QuoteBits
import Derived.Deep.AppendSrc
set_option maxRecDepth 100000
set_option maxHeartbeats 12800000
set_option linter.unusedVariables false
namespace Go.Proofs.Ytdbeiikaeccbhaa
open Go.RowKit
structure TBox (w:World) (G:Nat) (P T A M W Q:Int) (D:Option Addr) (n c:Nat) (D':Option Addr) (n' c':Nat) (S:List Sec) (C:List Pnd):Prop where
 cfg:Blk w G 28 [.int .i64 P,.int .i64 T,.int .i64 A,.int .i64 M,.int .i64 W,.int .i64 Q]
 dsk:DBox w (G + 1) D n c D' n' c' S C
section
variable {w w':World} {G:Nat} {P T A M W Q:Int} {D D':Option Addr} {n c n' c':Nat} {S:List Sec} {C:List Pnd}
theorem TBox.below (x:TBox w G P T A M W Q D n c D' n' c' S C) (hb:Below w.heap.size w w'):TBox w' G P T A M W Q D n c D' n' c' S C:=⟨x.cfg.below hb x.cfg.lt,x.dsk.below hb⟩
theorem TBox.new (P T A M W Q:Int) (t:Dsk w D n c D' n' c' S C) :
  TBox ((w.alloc (.cells #[.int .i64 P,.int .i64 T,.int .i64 A,.int .i64 M,.int .i64 W,.int .i64 Q] 28)).alloc (.cells #[.slice D n c,.slice D' n' c'] 56)) w.heap.size P T A M W Q D n c D' n' c' S C ∧
  Below w.heap.size w ((w.alloc (.cells #[.int .i64 P,.int .i64 T,.int .i64 A,.int .i64 M,.int .i64 W,.int .i64 Q] 28)).alloc (.cells #[.slice D n c,.slice D' n' c'] 56)):=by
 obtain ⟨x,hb⟩:=box_cfg w P T A M W Q
 have y:=DBox.new (t.below hb)
 rw [World.size_alloc] at y
 exact ⟨⟨x.grown (World.grownBy_alloc _ _ none) (by simp),y⟩,hb.alloc hb.size _⟩
theorem TBox.cells (x:TBox w G P T A M W Q D n c D' n' c' S C):w.cell? ⟨G,0,none⟩=some (.int .i64 P)∧w.cell? ⟨G,1,none⟩=some (.int .i64 T)∧w.cell? ⟨G,2,none⟩=some (.int .i64 A)∧w.cell? ⟨G,3,none⟩=some (.int .i64 M)∧w.cell? ⟨G,4,none⟩=some (.int .i64 W)∧w.cell? ⟨G,5,none⟩=some (.int .i64 Q) ∧
  w.cell? ⟨G + 1,0,none⟩=some (.slice D n c)∧w.cell? ⟨G + 1,1,none⟩=some (.slice D' n' c') :=
 ⟨x.cfg.cell 0,x.cfg.cell 1,x.cfg.cell 2,x.cfg.cell 3,x.cfg.cell 4,x.cfg.cell 5,x.dsk.cells.1,x.dsk.cells.2⟩
end
theorem tcheck_any (P T A M W Q:Int) (D:Option Addr) (n c:Nat) (D':Option Addr) (n' c':Nat) (S:List Sec) (C:List Pnd) (w:World) (hq:Dsk w D n c D' n' c' S C) (hs:SmallD S C) :
  Calls Try.prog 35 #[cfgV P T A M W Q,diskV D n c D' n' c'] w fun e w'=>e=.returned (.int .i64 (tcE P T A M W Q S C))∧Below w.heap.size w w':=by
 obtain ⟨x,hbel⟩:=TBox.new P T A M W Q hq
 obtain ⟨w1,hw1⟩:∃ x:World,x=(w.alloc (.cells #[.int .i64 P,.int .i64 T,.int .i64 A,.int .i64 M,.int .i64 W,.int .i64 Q] 28)).alloc (.cells #[.slice D n c,.slice D' n' c'] 56):=⟨_,rfl⟩
 rw [← hw1] at x hbel
 have X:=Lh x
 have B:=Lh hbel
 have PS:=Lh (fun w':World=>psectors_any P T A M W Q w')
 have CK:=Lh (fun wx hx=>dsk_does.check D n c D' n' c' S C wx hx hs)
 have hsl:=hq.secs.len
 obtain ⟨c0,c1,c2,c3,c4,c5,d0,d1⟩:=x.cells
 clear hq hs x hbel
 unfold tcE
 by_cases h1:mayC P T A M W Q
 ·rw [show secN P T A M W Q=fE P T A from if_pos h1,show chkC P T A M W Q=0 from if_pos h1] at PS
  obtain ⟨m,hm⟩:∃ m,m=fE P T A:=⟨_,rfl⟩
  rw [← hm] at PS
  by_cases h2:mayD S C=true
  ·rw [show chkD S C=0 from if_pos h2] at CK
   by_cases h3:(n:Int)=m
   ·rw [if_pos (show mayT P T A M W Q S C from ⟨h1,h2,by rw [hsl,← hm];exact h3⟩)]
    have h4:((n:Int) == m)=true:=beq_iff_eq.2 h3
    have h5:((n:Int) != m)=false:=by rw [h3];exact bne_self_eq_false _
    clear h1 h2 h3 hm hsl
    go_enter Try.func35,Try.ntmps35
    go_wp2_with fail
    rw [← hw1]
    clear hw1
    refine (PS.out _).mono ?_
    rintro e w2 ⟨rfl,hb⟩
    have B:=Lh (B.out.trans (hb.mono B.out.size))
    have X:=Lh (X.out.below hb)
    clear hb c0 c1 c2 c3 c4 c5 d0 d1
    obtain ⟨c0,c1,c2,c3,c4,c5,d0,d1⟩:=X.out.cells
    go_wp2_with fail
    refine (CK.out _ X.out.dsk.dsk).mono ?_
    rintro e w3 ⟨rfl,hb⟩
    have B:=Lh (B.out.trans (hb.mono B.out.size))
    have X:=Lh (X.out.below hb)
    clear hb c0 c1 c2 c3 c4 c5 d0 d1
    obtain ⟨c0,c1,c2,c3,c4,c5,d0,d1⟩:=X.out.cells
    go_wp2
    go_ret
    exact ⟨rfl,B.out⟩
   ·rw [if_neg (fun h:mayT P T A M W Q S C=>h3 (by rw [← hsl,hm];exact h.2.2))]
    have h4:((n:Int) == m)=false:=beq_eq_false_iff_ne.2 h3
    have h5:((n:Int) != m)=true:=bne_iff_ne.2 h3
    clear h1 h2 h3 hm hsl
    go_enter Try.func35,Try.ntmps35
    go_wp2_with fail
    rw [← hw1]
    clear hw1
    refine (PS.out _).mono ?_
    rintro e w2 ⟨rfl,hb⟩
    have B:=Lh (B.out.trans (hb.mono B.out.size))
    have X:=Lh (X.out.below hb)
    clear hb c0 c1 c2 c3 c4 c5 d0 d1
    obtain ⟨c0,c1,c2,c3,c4,c5,d0,d1⟩:=X.out.cells
    go_wp2_with fail
    refine (CK.out _ X.out.dsk.dsk).mono ?_
    rintro e w3 ⟨rfl,hb⟩
    have B:=Lh (B.out.trans (hb.mono B.out.size))
    have X:=Lh (X.out.below hb)
    clear hb c0 c1 c2 c3 c4 c5 d0 d1
    obtain ⟨c0,c1,c2,c3,c4,c5,d0,d1⟩:=X.out.cells
    go_wp2
    go_ret
    exact ⟨rfl,B.out⟩
  ·rw [show chkD S C=8 from if_neg h2] at CK
   rw [if_neg (fun h:mayT P T A M W Q S C=>h2 h.2.1)]
   clear h1 h2 hm hsl
   go_enter Try.func35,Try.ntmps35
   go_wp2_with fail
   rw [← hw1]
   clear hw1
   refine (PS.out _).mono ?_
   rintro e w2 ⟨rfl,hb⟩
   have B:=Lh (B.out.trans (hb.mono B.out.size))
   have X:=Lh (X.out.below hb)
   clear hb c0 c1 c2 c3 c4 c5 d0 d1
   obtain ⟨c0,c1,c2,c3,c4,c5,d0,d1⟩:=X.out.cells
   go_wp2_with fail
   refine (CK.out _ X.out.dsk.dsk).mono ?_
   rintro e w3 ⟨rfl,hb⟩
   have B:=Lh (B.out.trans (hb.mono B.out.size))
   clear hb c0 c1 c2 c3 c4 c5 d0 d1
   go_wp2
   go_ret
   exact ⟨rfl,B.out⟩
 ·rw [show chkC P T A M W Q=8 from if_neg h1] at PS
  rw [if_neg (fun h:mayT P T A M W Q S C=>h1 h.1)]
  obtain ⟨m,hm⟩:∃ m,m=secN P T A M W Q:=⟨_,rfl⟩
  rw [← hm] at PS
  clear h1 hm hsl
  go_enter Try.func35,Try.ntmps35
  go_wp2_with fail
  rw [← hw1]
  clear hw1
  refine (PS.out _).mono ?_
  rintro e w2 ⟨rfl,hb⟩
  have B:=Lh (B.out.trans (hb.mono B.out.size))
  clear hb c0 c1 c2 c3 c4 c5 d0 d1
  go_wp2
  go_ret
  exact ⟨rfl,B.out⟩
theorem set_getJ (l:List Int) (k u:Nat) (x:Int) (hk:k < l.length):(l.set k x).getD u 0=if u=k then x else l.getD u 0:=by
 rw [gtD,List.getElem?_set,gtD]
 by_cases h:k=u
 ·subst h;simp [hk]
 ·rw [if_neg h,if_neg (fun e=>h e.symm)]
theorem lit_textJ (w:World) (b:Nat) (mk:Nat × Nat) (zs:List Int) (n:Nat) (hb:b=w.heap.size) (hn:zs.length=n) (hm:n≤maxLen):Arg (w.alloc (.cells (ints .u8 zs).toArray 5 mk)) .u8 (some ⟨b,0,none⟩) n n zs:=by
 subst hb
 refine ⟨?_,hn,Nat.le_refl _,hm⟩
 refine Seq.of (by simp) fun j v hv=>?_
 have h1:(w.alloc (.cells (ints .u8 zs).toArray 5 mk)).heap[w.heap.size]?=some (.cells (ints .u8 zs).toArray 5 mk):=heap_alloc_new w _
 rw [cell_of_row _ _ _ _ _ _ h1,Nat.zero_add]
 simpa using hv
theorem run_append_made {P:Program} (w:World) (t tx ty e:TypeId) (i:TypeInfo) (z:Value) (ht:P.underlying t=some (.slice e)) (htx:P.underlying tx=some (.int .i64)) (hi:P.info? e=some i) (hz:i.zero=some z) (base:Option Addr) (sLen sCap:Nat) (olds:List Value)
  (hold:(Builtin.firstCells i.size sLen (.slice base sLen sCap)).run P w.drew=.ok olds.toArray w.drew) (n:Nat) (hn0:0 < n) (hs0:0 < i.size) (hsz:n≤1000) (hb:i.bytes≤1000)
  (hg:sCap < sLen + n) (h63:((sLen + n:Nat):Int)≤9223372036854775807) (hfit:Builtin.nextslicecap (sLen + n) sCap * i.bytes≤281474976710656) :
  (Builtin.append_ #[t,tx] ty #[.slice base sLen sCap,.int .i64 (n:Int)]).run P w =
   .ok (.slice (some ⟨w.heap.size,0,none⟩) (sLen + n) (grownCap w (sLen + n) sCap e))
    (w.drew.alloc (.cells (olds.toArray ++ Builtin.zeroCells z.cells n ++ Builtin.zeroCells z.cells (grownCap w (sLen + n) sCap e - (sLen + n))) e)):=by
 have hn:¬ (sLen + n≤sCap):=by omega
 have h63':¬ (9223372036854775807 < ((sLen:Int) + (n:Int))):=by omega
 have h48':¬ (281474976710656 < Builtin.nextslicecap (sLen + n) sCap * i.bytes):=by omega
 have hw:IntKind.i64.wrap (n:Int)=(n:Int):=Lib.wrap_i64_small n (by omega)
 have hnn:¬ ((n:Int) < 0):=by omega
 have hmul:¬ ((281474976710656:Int) < (n:Int) * (i.bytes:Int)):=by
  have h1:n * i.bytes≤1000 * 1000:=Nat.mul_le_mul hsz hb
  have h2:((n * i.bytes:Nat):Int)=(n:Int) * (i.bytes:Int):=Int.natCast_mul n i.bytes
  omega
 have hne:n≠0:=by omega
 have hse:i.size≠0:=by omega
 simp [Builtin.append_,run_underlying ht,run_underlying htx,sizeOf,typeInfo,zeroValue,hi,hz,hn,h63',h48',Question.forced,hold,newRow,grownCap,hw,hnn,hmul,asInt,asIntOf]
 intro h
 exact absurd h (Nat.mul_ne_zero hne hse)
end Go.Proofs.Ytdbeiikaeccbhaa
