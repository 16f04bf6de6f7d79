/- Texts of layers 1 to 12, joined. -/
import Derived.Test.YtifgcfepbenpjaaGreatNa21
import Derived.StillTailTactics
import Derived.Deep.Cut
import Derived.Deep.CutBlock
import Derived.Deep.CutRange
import Derived.KernelRfl
import Derived.Deep.RegionHeld3
set_option maxRecDepth 100000
set_option maxHeartbeats 12800000
set_option linter.unusedVariables false
namespace Go.Proofs.YtifgcfepbenpjaaGreat
open Go.RowKit
theorem filter_take (t:List Rc) (q:Rc→Bool) {k:Nat} (hk:k < t.length):(t.take (k + 1)).filter q=(t.take k).filter q ++ (if q (t.getD k zR) then [t.getD k zR] else []):=by
 have e:t.getD k zR=t[k]:=by rw [gtD,geE hk];rfl
 rw [e,List.take_add_one,geE hk,Option.toList_some,List.filter_append]
 congr 1
 by_cases h:q t[k]=true <;> simp [h]
theorem rout_any (A:Option Addr) (n c:Nat) (t:List Rc) (p:Int) (w:World) (ht:Recs w A n c t) (hn:n≤1000) :
  Calls Tryz.prog 99 #[.slice A n c,.int .i64 p] w fun e w'=>∃ A' c',e=.returned (.slice A' (outR t p).length c')∧OwnRecs w' w.heap.size A' (outR t p).length c' (outR t p)∧Below w.heap.size w w':=by
 have HT:=Lh ht
 have hlen:=ht.len
 have hall:=ht.is
 have hfin:outR t p=(t.take n).filter (fun r=>r.p != p):=by unfold outR;rw [List.take_of_length_le (by omega)]
 have hle:∀ k,((t.take k).filter fun r=>r.p != p).length≤n:=fun k=>by
  have h1:=List.length_filter_le (fun r:Rc=>r.p != p) (t.take k)
  rw [List.length_take] at h1
  omega
 have HLE:=Lh hle
 have STEP:=Lh (fun k (hk:k < n)=>filter_take t (fun r=>r.p != p) (k:=k) (by omega))
 have HF:=Lh hfin
 have HA:=Lh hall
 clear ht hle hfin hall
 go_enter Tryz.func99,Tryz.ntmps99
 go_wp2
 go_loopw [5,6] (fun x i wr=>∃ (k:Nat) (A':Option Addr) (c':Nat),k≤n∧i=.int .i64 k∧x=.slice A' ((t.take k).filter fun r=>r.p != p).length c'∧OwnRecs wr w.heap.size A' ((t.take k).filter fun r=>r.p != p).length c' ((t.take k).filter fun r=>r.p != p)∧Below w.heap.size w wr) (fun _ i _=>n - (intOf i).toNat)
 case atStart=>exact ⟨0,none,0,Nat.zero_le _,rfl,rfl,OwnRecs.nil _ _,Below.refl _ _⟩
 case round =>
  obtain ⟨k,A',c',hk,rfl,rfl,hown,hbw⟩:=hrel
  have OW:=Lh hown
  have BW:=Lh hbw
  clear hown hbw
  by_cases hkn:k < n
  ·have hT:=HT.out.below BW.out
   obtain ⟨b,o,rfl,hlt,c0,c1,c2,c3,c4,c5,c6,c7⟩:=hT.row hkn
   have HR:=Lh (hT.is_at hkn)
   have ST:=Lh (STEP.out k hkn)
   have hlm:=HLE.out k
   clear hT
   obtain ⟨r,hr⟩:∃ r,r=t.getD k zR:=⟨_,rfl⟩
   rw [← hr] at c0 c1 c2 c3 c4 c5 c6 c7 HR ST
   obtain ⟨M,hM⟩:∃ M,M=(t.take k).filter fun r=>r.p != p:=⟨_,rfl⟩
   rw [← hM] at OW ST hlm ⊢
   obtain ⟨m,hm⟩:∃ m,m=M.length:=⟨_,rfl⟩
   rw [← hm] at OW hlm ⊢
   have HM:=Lh hm
   clear hr hM hm
   by_cases hp:r.p=p
   ·have hb:(r.p != p)=false:=by simpa using hp
    rw [hb] at ST
    clear hp
    go_wp2
    go_roundw
    case rel =>
     have hst:=ST.out
     rw [if_neg (by decide),List.append_nil] at hst
     refine ⟨k + 1,A',c',by omega,by go_num,?_,?_,BW.out⟩
     ·rw [hst,← HM.out]
     ·rw [hst,← HM.out];exact OW.out
    case measure=>simp [intOf];omega
   ·have hb:(r.p != p)=true:=by simpa using hp
    rw [hb] at ST
    clear hp
    go_wp2_with (at_builtin;refine wpList_recs w wr rfl (.tmp 20) (.tmp 25) rfl w.heap.size A' m c' M rfl OW.out r HR.out rfl (by omega) BW.out (Nat.le_refl _) ?_;intro A2 c2 w2 hO2 hB2;have O2:=Lh hO2;have B2:=Lh hB2;clear hO2 hB2)
    go_roundw
    case rel =>
     have hst:=ST.out
     rw [if_pos rfl] at hst
     have hml:(M ++ [r]).length=m + 1:=by rw [List.length_append,← HM.out];rfl
     refine ⟨k + 1,A2,c2,by omega,by go_num,?_,?_,B2.out⟩
     ·rw [hst,hml]
     ·rw [hst,hml];exact O2.out
    case measure=>simp [intOf];omega
  ·obtain rfl:k=n:=by omega
   have hf:=HF.out
   go_wp2
   go_ret
   rw [hf]
   exact ⟨A',c',rfl,OW.out,BW.out⟩
def wTo (t:List Rc) (r:Rc):Nat→List Rc
 | 0=>[]
 | k + 1=>wTo t r k ++ atR t r k
theorem wTo_all (t:List Rc) (r:Rc):wTo t r 3=withR t r:=by
 show (([] ++ atR t r 0) ++ atR t r 1) ++ atR t r 2=_
 unfold withR
 simp
theorem atR_le (t:List Rc) (r:Rc) (p:Int):(atR t r p).length≤1:=by
 unfold atR
 split
 ·exact Nat.le_refl _
 ·cases t.find? fun s=>s.p == p <;> simp
theorem wTo_le (t:List Rc) (r:Rc) (k:Nat):(wTo t r k).length≤k:=by
 induction k with
 | zero=>exact Nat.le_refl _
 | succ k ih =>
  have:=atR_le t r k
  unfold wTo
  rw [List.length_append]
  omega
theorem rwith11_any (A:Option Addr) (n c:Nat) (t:List Rc) (r:Rc) (w:World) (ht:Recs w A n c t) (hr:isR r) (hn:n≤1000) :
  Calls Tryz.prog 101 #[.slice A n c,recV r] w fun e w'=>∃ A' c',e=.returned (.slice A' (withR t r).length c')∧OwnRecs w' w.heap.size A' (withR t r).length c' (withR t r)∧Below w.heap.size w w':=by
 obtain ⟨x,hbel⟩:=rec_box w r
 obtain ⟨w0,hw0⟩:∃ x,x=w.alloc (.cells #[.int .i64 r.p,.int .u32 r.b,.int .u32 r.e,.int .i64 r.l,.int .u8 r.h,.int .i64 r.f,.bool r.q,.bool r.a] 64):=⟨_,rfl⟩
 rw [← hw0] at x hbel
 have hlt:=x.lt
 have X:=Lh x
 have BEL:=Lh hbel
 have HT:=Lh (ht.below hbel)
 have HR:=Lh hr
 rw [← wTo_all]
 have STEP:=Lh (fun k=>(show wTo t r (k + 1)=wTo t r k ++ atR t r (k:Int) from rfl))
 have LE:=Lh (wTo_le t r)
 have hsz:=hbel.size
 clear x hbel ht hr
 go_enter Tryz.func101,Tryz.ntmps101
 go_wp2
 rw [← hw0]
 clear hw0
 go_loopw [5,6] (fun x i wr=>∃ (k:Nat) (A':Option Addr) (c':Nat),k≤3∧i=.int .i64 k∧x=.slice A' (wTo t r k).length c'∧OwnRecs wr w0.heap.size A' (wTo t r k).length c' (wTo t r k)∧Below w0.heap.size w0 wr) (fun _ i _=>3 - (intOf i).toNat)
 case atStart=>exact ⟨0,none,0,Nat.zero_le _,rfl,rfl,OwnRecs.nil _ _,Below.refl _ _⟩
 case round =>
  obtain ⟨k,A',c',hk,rfl,rfl,hown,hbw⟩:=hrel
  have OW:=Lh hown
  have BW:=Lh hbw
  clear hown hbw
  by_cases hkn:k < 3
  ·have hkn':(k:Int) < 3:=by omega
   have X2:=X.out.below BW.out hlt
   obtain ⟨c0,c1,c2,c3,c4,c5,c6,c7⟩:=X2.rec
   have ST:=Lh (STEP.out k)
   have hlm:=LE.out k
   have hT:=Lh (HT.out.below BW.out)
   obtain ⟨M,hM⟩:∃ M,M=wTo t r k:=⟨_,rfl⟩
   rw [← hM] at OW ST hlm ⊢
   obtain ⟨m,hm⟩:∃ m,m=M.length:=⟨_,rfl⟩
   rw [← hm] at OW hlm ⊢
   have HM:=Lh hm
   clear hM hm X2
   by_cases hp:(k:Int)=r.p
   ·have hb:((k:Int) == r.p)=true:=by simpa using hp
    have hat:=ST.out
    rw [show atR t r (k:Int)=[r] from if_pos hp] at hat
    have ST:=Lh hat
    clear hp hat
    go_wp2_with (at_builtin;refine wpList_recs w0 wr rfl (.tmp 15) (.tmp 17) rfl w0.heap.size A' m c' M rfl OW.out r HR.out rfl (by omega) BW.out (Nat.le_refl _) ?_;intro A2 c2' w2 hO2 hB2;have O2:=Lh hO2;have B2:=Lh hB2;clear hO2 hB2)
    go_roundw
    case rel =>
     have hst:=ST.out
     have hml:(M ++ [r]).length=m + 1:=by rw [List.length_append,← HM.out];rfl
     refine ⟨k + 1,A2,c2',by omega,by go_num,?_,?_,B2.out⟩
     ·rw [hst,hml]
     ·rw [hst,hml];exact O2.out
    case measure=>simp [intOf];omega
   ·have hb:((k:Int) == r.p)=false:=by simpa using hp
    have hat:=ST.out
    rw [show atR t r (k:Int)=(fR t (k:Int)).toList from if_neg hp] at hat
    have ST:=Lh hat
    have AT:=Lh (at_any A n c t (k:Int) wr hT.out)
    clear hp hat
    cases hf:fR t (k:Int) with
    | none =>
     rw [hf] at ST
     have HF:=Lh hf
     clear hf
     go_wp2_with fail
     refine AT.out.mono ?_
     rintro e w2 ⟨⟨i,_,hfi,_⟩ | ⟨_,rfl⟩,rfl⟩
     ·rw [HF.out] at hfi;cases hfi
     ·go_wp2
      go_roundw
      case rel =>
       have hst:=ST.out
       rw [show (none:Option Rc).toList=[] from rfl,List.append_nil] at hst
       refine ⟨k + 1,A',c',by omega,by go_num,?_,?_,BW.out⟩
       ·rw [hst,← HM.out]
       ·rw [hst,← HM.out];exact OW.out
      case measure=>simp [intOf];omega
    | some s =>
     rw [hf] at ST
     have HF:=Lh hf
     clear hf
     go_wp2_with fail
     refine AT.out.mono ?_
     rintro e w2 ⟨⟨i,hi,_,rfl⟩ | ⟨hfi,_⟩,rfl⟩
     ·have hi0:¬ (i:Int) < 0:=by omega
      go_wp2_with fail
      refine AT.out.mono ?_
      rintro e w2 ⟨⟨i2,hi2,hf2,rfl⟩ | ⟨hfi,_⟩,rfl⟩
      ·obtain ⟨b,o,rfl,hlt2,d0,d1,d2,d3,d4,d5,d6,d7⟩:=hT.out.row hi2
       have HS:=Lh (hT.out.is_at hi2)
       have hs:t.getD i2 zR=s:=by rw [HF.out] at hf2;injection hf2 with hf2;exact hf2.symm
       rw [hs] at d0 d1 d2 d3 d4 d5 d6 d7 HS
       clear hf2 hs c0 c1 c2 c3 c4 c5 c6 c7
       go_wp2_with (at_builtin;refine wpList_recs w0 w2 rfl (.tmp 23) (.tmp 30) rfl w0.heap.size A' m c' M rfl OW.out s HS.out rfl (by omega) BW.out (Nat.le_refl _) ?_;intro A2 c2' w3 hO2 hB2;have O2:=Lh hO2;have B2:=Lh hB2;clear hO2 hB2)
       go_roundw
       case rel =>
        have hst:=ST.out
        rw [show (some s).toList=[s] from rfl] at hst
        have hml:(M ++ [s]).length=m + 1:=by rw [List.length_append,← HM.out];rfl
        refine ⟨k + 1,A2,c2',by omega,by go_num,?_,?_,B2.out⟩
        ·rw [hst,hml]
        ·rw [hst,hml];exact O2.out
       case measure=>simp [intOf];omega
      ·rw [HF.out] at hfi;cases hfi
     ·rw [HF.out] at hfi;cases hfi
  ·obtain rfl:k=3:=by omega
   go_wp2
   go_ret
   exact ⟨A',c',rfl,OW.out.lower hsz,BEL.out.trans (BW.out.mono hsz)⟩
theorem Arg.cut {w:World} {b o c n lo hi:Nat} {t:Txt} (h:Arg w .u8 (some ⟨b,o,none⟩) n c t) (h1:lo≤hi) (h2:hi≤n):Seq w w.heap.size (some ⟨b,o + lo,none⟩) (ints .u8 ((t.drop lo).take (hi - lo))):=by
 have h3:=(h.seq.drop lo).take (hi - lo)
 unfold ints at h3 ⊢
 rwa [← List.map_drop,← List.map_take] at h3
def OfOut (w:World) (t:Txt) (e:Ending) (w':World):Prop:=((isN t∧e=.returned (.tuple #[recV (rawR t),.bool true]))∨(¬ isN t∧∃ s,e=.returned (.tuple #[recV s,.bool false])))∧Below w.heap.size w w'
theorem Arg.at_ {w:World} {A:Option Addr} {n c:Nat} {t:Txt} (h:Arg w .u8 A n c t) (hn:0 < n):∃ b o,A=some ⟨b,o,none⟩∧∀ j,j < n→w.cell? ⟨b,o + j,none⟩=some (.int .u8 (t.getD j 0)):=by
 have hl:=h.len
 obtain ⟨b,o,e,_,hc⟩:=h.seq.at_ (by rw [ints_length];omega)
 exact ⟨b,o,e,fun j hj=>hc j _ (ints_getD .u8 t j (by omega))⟩
theorem of_short (A:Option Addr) (n c:Nat) (t:Txt) (w:World) (ht:Arg w .u8 A n c t) (h:n≠14):Calls Tryz.prog 100 #[.slice A n c] w (OfOut w t):=by
 have hlen:=ht.len
 have HN:=Lh (show ¬ isN t from fun k=>h (hlen.symm.trans k.1))
 obtain ⟨x,hbel⟩:=rec_box w zR
 have hbel:Below w.heap.size w (w.alloc (.cells #[.int .i64 0,.int .u32 0,.int .u32 0,.int .i64 0,.int .u8 0,.int .i64 0,.bool false,.bool false] 64)):=hbel
 have X:=Lh x
 obtain ⟨c0,c1,c2,c3,c4,c5,c6,c7⟩:=x.rec
 have f0:=x.free 0
 have f1:=x.free 1
 have f2:=x.free 2
 have f3:=x.free 3
 have f4:=x.free 4
 have f5:=x.free 5
 have f6:=x.free 6
 have f7:=x.free 7
 have B:=Lh hbel
 unfold zR at c0 c1 c2 c3 c4 c5 c6 c7 f0 f1 f2 f3 f4 f5 f6 f7
 dsimp only at c0 c1 c2 c3 c4 c5 c6 c7 f0 f1 f2 f3 f4 f5 f6 f7
 have hb:((n:Int) != 14)=true:=by rw [bne_iff_ne];omega
 clear x hbel ht h hlen
 go_enter Tryz.func100,Tryz.ntmps100
 go_wp2
 refine bodyPost_ret (v:=.tuple #[recV zR,.bool false]) ?_ rfl ⟨.inr ⟨HN.out,zR,rfl⟩,B.out⟩
 simp [results,Tryz.f100,go_sem,zR,c0,c1,c2,c3,c4,c5,c6,c7]
theorem of_head (A:Option Addr) (c:Nat) (t:Txt) (w:World) (ht:Arg w .u8 A 14 c t) (h:¬ (t.getD 0 0=1∧t.getD 13 0≤3)):Calls Tryz.prog 100 #[.slice A 14 c] w (OfOut w t):=by
 have HN:=Lh (show ¬ isN t from fun k=>h ⟨k.2.1,k.2.2.1⟩)
 obtain ⟨x,hbel⟩:=rec_box w zR
 have hbel:Below w.heap.size w (w.alloc (.cells #[.int .i64 0,.int .u32 0,.int .u32 0,.int .i64 0,.int .u8 0,.int .i64 0,.bool false,.bool false] 64)):=hbel
 have X:=Lh x
 obtain ⟨c0,c1,c2,c3,c4,c5,c6,c7⟩:=x.rec
 have f0:=x.free 0
 have f1:=x.free 1
 have f2:=x.free 2
 have f3:=x.free 3
 have f4:=x.free 4
 have f5:=x.free 5
 have f6:=x.free 6
 have f7:=x.free 7
 have B:=Lh hbel
 unfold zR at c0 c1 c2 c3 c4 c5 c6 c7 f0 f1 f2 f3 f4 f5 f6 f7
 dsimp only at c0 c1 c2 c3 c4 c5 c6 c7 f0 f1 f2 f3 f4 f5 f6 f7
 obtain ⟨b,o,rfl,hc⟩:=(ht.below hbel).at_ (by decide)
 have t0:=hc 0 (by decide)
 have t13:=hc 13 (by decide)
 rw [Nat.add_zero] at t0
 obtain ⟨x0,hx0⟩:∃ x,x=t.getD 0 0:=⟨_,rfl⟩
 obtain ⟨x13,hx13⟩:∃ x,x=t.getD 13 0:=⟨_,rfl⟩
 rw [← hx0] at t0 h
 rw [← hx13] at t13 h
 clear x hbel ht hc hx0 hx13
 by_cases h0:x0=1
 ·have h3:3 < x13:=by
   rcases Int.lt_or_le 3 x13 with k | k
   ·exact k
   ·exact absurd ⟨h0,k⟩ h
  subst h0
  clear h
  go_enter Tryz.func100,Tryz.ntmps100
  go_wp2
  refine bodyPost_ret (v:=.tuple #[recV zR,.bool false]) ?_ rfl ⟨.inr ⟨HN.out,zR,rfl⟩,B.out⟩
  simp [results,Tryz.f100,go_sem,zR,c0,c1,c2,c3,c4,c5,c6,c7]
 ·have hb:(x0 != 1)=true:=by rw [bne_iff_ne];exact h0
  clear h h0
  go_enter Tryz.func100,Tryz.ntmps100
  go_wp2
  refine bodyPost_ret (v:=.tuple #[recV zR,.bool false]) ?_ rfl ⟨.inr ⟨HN.out,zR,rfl⟩,B.out⟩
  simp [results,Tryz.f100,go_sem,zR,c0,c1,c2,c3,c4,c5,c6,c7]
abbrev noteV (g n:Int) (A:Option Addr) (k c:Nat):Value:=.iface 219 (.agg #[.int .u64 g,.int .i64 n,.slice A k c])
abbrev faultV (E:Int):Value:=.iface 220 (.int .i64 E)
theorem noteof_yes (g n:Int) (A:Option Addr) (k c:Nat) (w:World) (h1:1≤k) (h20:k≤20) (hn:0≤n∧n≤255) :
  Calls Tryz.prog 179 #[.int .u64 g,.int .i64 n,.slice A k c] w fun e w'=>e=.returned (noteV g n A k c)∧w'=w:=by
 have a1:¬ ((k:Int) < 1):=by omega
 have a2:¬ (20 < (k:Int)):=by omega
 have a3:¬ (n < 0):=by omega
 have a4:¬ (255 < n):=by omega
 go_enter Tryz.func179,Tryz.ntmps179
 go_wp2
 go_ret
 exact ⟨rfl,rfl⟩
theorem noteof_no (g n:Int) (A:Option Addr) (k c:Nat) (b:Txt) (w:World) (hk:b.length=k) (hE:jtE n b≠0) :
  Calls Tryz.prog 179 #[.int .u64 g,.int .i64 n,.slice A k c] w fun e w'=>e=.returned (faultV (jtE n b))∧w'=w:=by
 unfold jtE at hE ⊢
 rw [hk] at hE ⊢
 by_cases h1:1≤k∧k≤20
 ·rw [if_pos h1] at hE ⊢
  have hn:¬ (0≤n∧n≤255):=fun h=>hE (if_pos h)
  rw [if_neg hn]
  have a1:¬ ((k:Int) < 1):=by omega
  have a2:¬ (20 < (k:Int)):=by omega
  clear hE hk
  by_cases h3:n < 0
  ·clear hn h1
   go_enter Tryz.func179,Tryz.ntmps179
   go_wp2
   go_ret
   exact ⟨rfl,rfl⟩
  ·have a4:255 < n:=by omega
   clear hn h1
   go_enter Tryz.func179,Tryz.ntmps179
   go_wp2
   go_ret
   exact ⟨rfl,rfl⟩
 ·rw [if_neg h1]
  clear hE hk
  by_cases h3:(k:Int) < 1
  ·clear h1
   go_enter Tryz.func179,Tryz.ntmps179
   go_wp2
   go_ret
   exact ⟨rfl,rfl⟩
  ·have a2:20 < (k:Int):=by omega
   clear h1
   go_enter Tryz.func179,Tryz.ntmps179
   go_wp2
   go_ret
   exact ⟨rfl,rfl⟩
theorem jsizes_any (w:World):Calls Tryz.prog 188 #[] w fun e w'=>∃ g,e=.returned (.slice (some ⟨g,0,none⟩) 5 5)∧Arg w' .i64 (some ⟨g,0,none⟩) 5 5 sz5∧Below w.heap.size w w':=by
 have hml:5≤maxLen:=by decide
 have HA:=Lh (show Arg (w.alloc (.cells #[.int .i64 8,.int .i64 1,.int .i64 1,.int .i64 1,.int .i64 1] 3)) .i64 (some ⟨w.heap.size,0,none⟩) 5 5 sz5 from ⟨lit_row w 3 .i64 sz5 _ _ _ rfl rfl (by simp),rfl,Nat.le_refl _,hml⟩)
 go_enter Tryz.func188,Tryz.ntmps188
 go_wp2
 go_ret
 exact ⟨_,rfl,HA.out,(Below.refl _ _).alloc (Nat.le_refl _) _⟩
theorem ftext_any (E:Int) (w:World):Calls Tryz.prog 231 #[.int .i64 E] w fun e w'=>e=.returned (.tuple #[.slice none 0 0,.int .i64 E])∧w'=w:=by
 go_enter Tryz.func231,Tryz.ntmps231
 go_wp2
 go_ret2
 exact ⟨rfl,rfl⟩
theorem jsplice_row (g n m:Int):splice (ints .u8 noughts) 0 (ints .u8 (jrow g n m))=ints .u8 (jrow g n m ++ List.replicate 20 0):=by
 have hl:(jrow g n m).length=12:=jrow_length g n m
 simp [splice,ints,noughts,hl]
theorem jsplice_part (r b:Txt) (hr:r.length=12) (hb:b.length≤20):splice (ints .u8 (r ++ List.replicate 20 0)) 12 (ints .u8 b)=ints .u8 (r ++ b ++ List.replicate (20 - b.length) 0):=by
 have h1:(ints .u8 (r ++ List.replicate 20 0)).take 12=ints .u8 r:=by
  unfold ints
  rw [← List.map_take,List.take_append_of_le_length (by omega),List.take_of_length_le (by omega)]
 have h2:(ints .u8 (r ++ List.replicate 20 0)).drop (12 + (ints .u8 b).length)=ints .u8 (List.replicate (20 - b.length) 0):=by
  rw [ints_length]
  unfold ints
  rw [← List.map_drop,List.drop_append,List.drop_of_length_le (by omega),List.nil_append,List.drop_replicate,show 20 - (12 + b.length - r.length)=20 - b.length from by omega]
 unfold splice
 rw [h1,h2]
 simp [ints]
theorem nums_note (w:World) (g n:Int) (k:Nat) (b B:Nat) (hb:b=w.heap.size) (hB:w.heap.size < B):Seq (w.alloc (.cells #[.int .u64 g,.int .u64 1,.int .u64 n,.int .u64 (k:Int),.int .u64 0] 27)) B (some ⟨b,0,none⟩) (ints .u64 [g,1,n,(k:Int),0]):=lit_row w 27 .u64 [g,1,n,(k:Int),0] _ _ _ rfl hb hB
theorem ntext_any (g n:Int) (hg:isG g) (hn:0≤n∧n≤255) (A:Option Addr) (k c:Nat) (b:Txt) (w:World) (hb:Arg w .u8 A k c b) (hk:k≤20) :
  Calls Tryz.prog 230 #[.agg #[.int .u64 g,.int .i64 n,.slice A k c]] w fun e w'=>∃ G,e=.returned (.tuple #[.slice (some ⟨G,0,none⟩) 32 32,.int .i64 0])∧w'.ownsRow w.heap.size 5 1 (.slice (some ⟨G,0,none⟩) 32 32) 32 (ints .u8 (jT g n b))∧Below w.heap.size w w':=by
 have x:=Blk.new w 219 [.int .u64 g,.int .i64 n,.slice A k c]
 have hbel:Below w.heap.size w (w.alloc (.cells #[.int .u64 g,.int .i64 n,.slice A k c] 219)):=(Below.refl _ _).alloc (Nat.le_refl _) _
 have hlen:=hb.len
 have FT:=Lh (show fitsTo [g,1,n,(k:Int),0] sz5 sz5.length=true from fits5 hg ⟨hn.1,by omega⟩ ⟨by omega,by omega⟩)
 obtain ⟨hg0,hg1⟩:=hg
 have W1:=Lh (show ∀ z ∈ [g,1,n,(k:Int),0],isWord z by
  intro z hz
  simp only [List.mem_cons,List.not_mem_nil,or_false] at hz
  unfold isWord
  rcases hz with rfl | rfl | rfl | rfl | rfl <;> omega)
 have X:=Lh x
 have BL:=Lh hbel
 have HB:=Lh (hb.below hbel)
 have e2:IntKind.u64.wrap n=n:=wraps_u64 n hn.1 (by omega)
 have e3:IntKind.u64.wrap (k:Int)=(k:Int):=wraps_u64 _ (by omega) (by omega)
 have HJ:=Lh (show jT g n b=jrow g n k ++ b ++ List.replicate (20 - b.length) 0 by unfold jT;rw [hlen])
 rw [HJ.out]
 have HLB:=Lh (show b.length≤20 by omega)
 clear x hbel hg0 hg1 hn hb HJ
 go_enter Tryz.func230,Tryz.ntmps230
 go_upto_region 1 with fail
 obtain ⟨v1,hW⟩:∃ x:World,x=w.alloc (.cells #[.int .u64 g,.int .i64 n,.slice A k c] 219):=⟨_,rfl⟩
 rw [← hW] at X BL HB ⊢
 have hlt:w.heap.size < v1.heap.size:=X.out.lt
 clear hW
 have hcur:Below v1.heap.size v1 v1.drew:=below_drewN (Below.refl _ _) 1
 have keepX:∀ wx,Below v1.heap.size v1 wx→wx.cell? ⟨w.heap.size,0,none⟩=some (.int .u64 g)∧wx.cell? ⟨w.heap.size,1,none⟩=some (.int .i64 n)∧wx.cell? ⟨w.heap.size,2,none⟩=some (.slice A k c):=fun wx hx=>by
  have z:=X.out.below hx hlt
  exact ⟨z.cell 0,z.cell 1,z.cell 2⟩
 have hkX:=keepX _ hcur
 go_region_held3 (fun wx=>wx.cell? ⟨w.heap.size,0,none⟩=some (.int .u64 g)∧wx.cell? ⟨w.heap.size,1,none⟩=some (.int .i64 n)∧wx.cell? ⟨w.heap.size,2,none⟩=some (.slice A k c))
  (first | exact hkX | exact keepX _ (hcur.alloc hcur.size _) | exact keepX _ (below_drewN ((Below.refl _ _).alloc (Nat.le_refl _) _) 1) | go_keep)
  (first
   | (go_at_call 188;with_reducible refine (jsizes_any v1.drew).mono ?_;rintro e wS ⟨gS,rfl,hAS,hbS⟩;have hcur:=hcur.trans (hbS.mono hcur.size);have hkX:=keepX _ hcur)
   | (go_at_call 188;have hL:=nums_note v1 g n k v1.heap.size (v1.heap.size + 1) rfl (Nat.lt_succ_self _);have hcur:Below v1.heap.size v1 (v1.alloc (.cells #[.int .u64 g,.int .u64 1,.int .u64 n,.int .u64 (k:Int),.int .u64 0] 27)).drew:=below_drewN ((Below.refl _ _).alloc (Nat.le_refl _) _) 1;have hL:Seq (v1.alloc (.cells #[.int .u64 g,.int .u64 1,.int .u64 n,.int .u64 (k:Int),.int .u64 0] 27)).drew (v1.heap.size + 1) (some ⟨v1.heap.size,0,none⟩) (ints .u64 [g,1,n,(k:Int),0]):=hL.keep fun _ _=>rfl;with_reducible refine (jsizes_any _).mono ?_;rintro e wS ⟨gS,rfl,hAS,hbS⟩;have hL:=(hL.below (hbS.mono (by simp))).more (B':=wS.heap.size) (Nat.le_trans (by simp) hbS.size);have hcur:=hcur.trans (hbS.mono hcur.size);have hkX:=keepX _ hcur)
   | (go_at_call 74;with_reducible refine (write_ok (some ⟨v1.heap.size,0,none⟩) (some ⟨gS,0,none⟩) 5 5 5 5 [g,1,n,(k:Int),0] sz5 _ hAS.seq rfl okB_sz5 hL rfl rfl W1.out).mono ?_;intro e w2 hout;have hM:=hcur.size;obtain ⟨A2,c2,rfl,hown,hb⟩:=(WroteOut.yes hout FT.out).len (zs':=jrow g n k) (n:=12) rfl (jrow_length _ _ _);have hcur:=hcur.trans (hb.mono hcur.size);have hkX:=keepX _ hcur)
   | (go_at_call 74;have hL:=nums_note wS g n k wS.heap.size (wS.heap.size + 1) rfl (Nat.lt_succ_self _);have hL:=hL.more (B':=(wS.alloc (.cells #[.int .u64 g,.int .u64 1,.int .u64 n,.int .u64 (k:Int),.int .u64 0] 27)).heap.size) (by simp);have hAS:=hAS.below ((Below.refl wS.heap.size wS).alloc (Nat.le_refl _) (.cells #[.int .u64 g,.int .u64 1,.int .u64 n,.int .u64 (k:Int),.int .u64 0] 27));have hcur:=hcur.alloc hcur.size (.cells #[.int .u64 g,.int .u64 1,.int .u64 n,.int .u64 (k:Int),.int .u64 0] 27);with_reducible refine (write_ok (some ⟨wS.heap.size,0,none⟩) (some ⟨gS,0,none⟩) 5 5 5 5 [g,1,n,(k:Int),0] sz5 _ hAS.seq rfl okB_sz5 hL rfl rfl W1.out).mono ?_;intro e w2 hout;have hM:=hcur.size;obtain ⟨A2,c2,rfl,hown,hb⟩:=(WroteOut.yes hout FT.out).len (zs':=jrow g n k) (n:=12) rfl (jrow_length _ _ _);have hcur:=hcur.trans (hb.mono hcur.size);have hkX:=keepX _ hcur))
 all_goals (
  have B2:=Lh (BL.out.trans (hcur.mono BL.out.size))
  have X2:=Lh (X.out.below hcur hlt)
  have HB2:=Lh (HB.out.below hcur)
  have R2:=Lh (Arg.own hown)
  have hG0:=Nat.le_trans BL.out.size hcur.size
  clear hcur hkX keepX hM hb hown FT W1 X BL HB hAS
  have hmk:=make_bytes 32 (by decide) w2
  rw [show ((32:Nat):Int)=32 from rfl] at hmk
  have y:=Blk.new w2 5 (List.replicate 32 (.int .u8 0))
  rw [noughts_ints] at y
  have hbl1:Below w2.heap.size w2 (w2.alloc (.cells (List.replicate 32 (.int .u8 0)).toArray 5)):=(Below.refl _ _).alloc (Nat.le_refl _) _
  rw [noughts_ints] at hmk hbl1
  obtain ⟨v2,hV⟩:∃ x:World,x=w2.alloc (.cells (ints .u8 noughts).toArray 5):=⟨_,rfl⟩
  rw [← hV] at hmk y hbl1
  have Y:=Lh y
  have R3:=Lh (R2.out.below hbl1)
  have BV:=Lh hbl1
  have HG:=Lh hG0
  have HLEN:=Lh (show (ints .u8 (jrow g n k)).length=Nat.min 12 32 by rw [ints_length,jrow_length];decide)
  have HFIT:=Lh (show 0 + (ints .u8 (jrow g n k)).length≤(ints .u8 noughts).length by rw [ints_length,ints_length,jrow_length];decide)
  have HLE2:=Lh (show (ints .u8 b).length=Nat.min k 20 by rw [ints_length,HB2.out.len];exact (Nat.min_eq_left hk).symm)
  have HFI2:=Lh (show 12 + (ints .u8 b).length≤(ints .u8 (jrow g n k ++ List.replicate 20 0)).length by rw [ints_length,ints_length,HB2.out.len,List.length_append,jrow_length,List.length_replicate];omega)
  clear hV hbl1 y R2 hG0
  go_wp2_with (with_reducible refine wpList_copy_seq (o:=⟨some 25,_,_,_,_,_⟩) rfl (.tmp 23) (.tmp 24) _ _ rfl 5 Tryz.underlying42 byte_size A2 w2.heap.size 0 32 32 12 c2 rfl rfl (ints .u8 noughts) 5 Y.out (ints .u8 (jrow g n k)) HLEN.out _ R3.out.seq HFIT.out (ints_one _ _) w2.heap.size w2 BV.out (Nat.le_refl _) ?_;intro w4 HG4 hB4)
  have X4:=Lh (X2.out.below hB4 X2.out.lt)
  have R4:=Lh (HB2.out.below hB4)
  have Y4:=HG4.out
  rw [jsplice_row] at Y4
  have Y4:=Lh Y4
  have B4:=Lh hB4
  have q2:=X4.out.cell 2
  simp only [gcZ,gcS] at q2
  clear HG4 hB4 hmk R3 Y BV HLEN HFIT
  go_still_tail 4,(by kernel_rfl)
  change wpList _ _ _ _ _ w4.drew
  have YD:=Lh (show Blk w4.drew w2.heap.size 5 (ints .u8 (jrow g n k ++ List.replicate 20 0)) from Y4.out)
  have RD:=Lh (show Seq w4.drew w4.heap.size A (ints .u8 b) from R4.out.seq.keep fun _ _=>rfl)
  have BD:=Lh (show Below w.heap.size w w4.drew from below_drewN (B2.out.trans (B4.out.mono B2.out.size)) 1)
  clear X4 q2 Y4 R4 B2 B4 X2 HB2
  go_wp2_with (with_reducible refine wpList_copy_seq (o:=⟨some 30,_,_,_,_,_⟩) rfl (.tmp 27) (.tmp 29) _ _ rfl 5 Tryz.underlying42 byte_size A w2.heap.size 12 20 20 k c rfl rfl (ints .u8 (jrow g n k ++ List.replicate 20 0)) 5 YD.out (ints .u8 b) HLE2.out _ RD.out HFI2.out (ints_one _ _) w.heap.size w BD.out HG.out ?_;intro w5 HG5 hB5)
  go_ret2
  have hb5:=HG5.out
  rw [jsplice_part _ _ (jrow_length _ _ _) HLB.out] at hb5
  exact ⟨w2.heap.size,rfl,hb5.owns HG.out (by rw [ints_length];have:=HLB.out;simp only [List.length_append,jrow_length,List.length_replicate];omega) (by decide),hB5⟩)
end Go.Proofs.YtifgcfepbenpjaaGreat
