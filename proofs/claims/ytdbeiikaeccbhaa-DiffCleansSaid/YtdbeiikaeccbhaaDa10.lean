/- Texts of the layers below, joined. -/
import Derived.Test.YtdbeiikaeccbhaaDa7
import Derived.Lib.Bytes
import Derived.WalkMore
import Derived.ScopeJumps
import Derived.StillTailTactics
import Derived.BigQuiet
import Derived.Lib.QuoteBits
import Derived.Deep.Cut
set_option maxRecDepth 100000
set_option maxHeartbeats 12800000
set_option linter.unusedVariables false
namespace Go.Proofs.Ytdbeiikaeccbhaa
open Go.RowKit
theorem great_hit1 {S:List Sec} {C:List Pnd} {m:Int} {k:Nat} (hk:k < S.length) (hm:(k:Int) < m) (h:100 < (S.getD k (false,[])).2.length):greatD S C m=true:=by
 unfold greatD
 rw [Bool.or_eq_true,Bool.or_eq_true,Bool.or_eq_true,List.any_eq_true]
 refine .inl (.inl (.inl ⟨S.getD k (false,[]),?_,by simp only [decide_eq_true_iff];exact h⟩))
 rw [gtD,geE hk,Option.getD_some]
 rw [List.mem_take_iff_getElem]
 exact ⟨k,by omega,rfl⟩
theorem great_hit2 {S:List Sec} {C:List Pnd} {m:Int} {k:Nat} (hk:k < C.length) (hm:k < 100) (h:100 < (C.getD k (0,[])).2.length):greatD S C m=true:=by
 unfold greatD
 rw [Bool.or_eq_true,Bool.or_eq_true,Bool.or_eq_true,List.any_eq_true,List.any_eq_true]
 refine .inl (.inl (.inr ⟨C.getD k (0,[]),?_,by simp only [decide_eq_true_iff];exact h⟩))
 rw [gtD,geE hk,Option.getD_some]
 rw [List.mem_take_iff_getElem]
 exact ⟨k,by omega,rfl⟩
theorem great_end {S:List Sec} {C:List Pnd} {m:Int} (h1:∀ y:Nat,y < S.length→(y:Int) < m→(S.getD y (false,[])).2.length≤100) (h2:∀ y,y < C.length→y < 100→(C.getD y (0,[])).2.length≤100) :
  greatD S C m=(decide (m < (S.length:Int)) || decide (100 < C.length)):=by
 unfold greatD
 rw [show (S.take m.toNat).any (fun s=>decide (100 < s.2.length))=false from ?_,show (C.take 100).any (fun p=>decide (100 < p.2.length))=false from ?_,Bool.false_or,Bool.false_or]
 ·rw [List.any_eq_false]
  intro t ht
  obtain ⟨k,hk,rfl⟩:=List.mem_take_iff_getElem.1 ht
  have:=h2 k (by omega) (by omega)
  rw [gtD,geE (by omega),Option.getD_some] at this
  simp only [decide_eq_true_iff]
  omega
 ·rw [List.any_eq_false]
  intro t ht
  obtain ⟨k,hk,rfl⟩:=List.mem_take_iff_getElem.1 ht
  have:=h1 k (by omega) (by omega)
  rw [gtD,geE (by omega),Option.getD_some] at this
  simp only [decide_eq_true_iff]
  omega
theorem great_any (A:Option Addr) (n c:Nat) (A':Option Addr) (n' c':Nat) (S:List Sec) (C:List Pnd) (m:Int) (w:World) (hq:Dsk w A n c A' n' c' S C) :
  Calls Try.prog 17 #[diskV A n c A' n' c',.int .i64 m] w fun e w'=>e=.returned (.bool (greatD S C m))∧Below w.heap.size w w':=by
 have hbel:Below w.heap.size w (w.alloc (.cells #[.slice A n c,.slice A' n' c'] 56)):=(Below.refl _ _).alloc (Nat.le_refl _) _
 have HQ:=hq.below hbel
 obtain ⟨c0,c1⟩:=box_disk w A n c A' n' c'
 have hl:=hq.secs.len
 have hl':=hq.pnds.len
 have hcm:=Nat.le_trans hq.secs.cap hq.secs.max
 have hcm':=Nat.le_trans hq.pnds.cap hq.pnds.max
 unfold maxLen at hcm hcm'
 have H1:=Lh fun k (hk:k < n)=>great_hit1 (S:=S) (C:=C) (m:=m) (k:=k) (by omega)
 have H2:=Lh fun k (hk:k < n')=>great_hit2 (S:=S) (C:=C) (m:=m) (k:=k) (by omega)
 have hend:=great_end (S:=S) (C:=C) (m:=m)
 rw [hl,hl'] at hend
 have END:=Lh hend
 obtain ⟨G,hG⟩:∃ G,G=greatD S C m:=⟨_,rfl⟩
 rw [← hG] at H1 H2 END ⊢
 obtain ⟨w1,hw1⟩:∃ w1,w1=w.alloc (.cells #[.slice A n c,.slice A' n' c'] 56):=⟨_,rfl⟩
 rw [← hw1] at hbel HQ c0 c1
 have HQ:=Lh HQ
 have BEL:=Lh hbel
 clear hq hbel hend hG hl hl'
 go_enter Try.func17,Try.ntmps17
 go_wp2
 rw [← hw1]
 clear hw1
 go_loop [5] (fun i=>∃ k:Nat,k≤n∧i=.int .i64 k∧∀ y:Nat,y < k→(y:Int) < m→(S.getD y (false,[])).2.length≤100) (fun i=>n - (intOf i).toNat)
 case atStart=>exact ⟨0,Nat.zero_le _,rfl,fun y hy=>by omega⟩
 case round =>
  obtain ⟨k,hk,rfl,hall⟩:=hrel
  have ALL:=Lh hall
  clear hall
  by_cases hkn:k < n∧(k:Int) < m
  ·obtain ⟨hkn,hkm⟩:=hkn
   obtain ⟨b,o,Ai,ni,ci,rfl,hlt,hc,hx,ha⟩:=HQ.out.secs.at_ k hkn
   have hni:=ha.len
   have hLm:=Nat.le_trans ha.cap ha.max
   unfold maxLen at hLm
   obtain ⟨L,hL⟩:∃ L,L=(S.getD k (false,[])).2.length:=⟨_,rfl⟩
   have HL:=Lh hL
   rw [← hL] at hni
   subst hni
   have hki:(k:Int) < (n:Int):=by omega
   clear hL ha
   by_cases h100:100 < L
   ·have HG:=Lh (H1.out k hkn hkm (by rw [← HL.out];exact h100))
    have h100i:(100:Int) < (L:Int):=by omega
    go_wp2
    go_ret
    rw [HG.out]
    exact ⟨rfl,BEL.out⟩
   ·have h100i:¬ (100:Int) < (L:Int):=by omega
    go_wp2
    go_round
    case rel =>
     refine ⟨k + 1,by omega,by go_num,fun y hy hym=>?_⟩
     rcases Nat.lt_or_ge y k with h | h
     ·exact ALL.out y h hym
     ·obtain rfl:y=k:=by omega
      rw [← HL.out];omega
    case measure=>simp [intOf];omega
  ·have ALL2:=Lh (show ∀ y:Nat,y < n→(y:Int) < m→(S.getD y (false,[])).2.length≤100 from fun y h1 h2=>ALL.out y (by omega) h2)
   clear ALL
   have hf:(decide ((k:Int) < (n:Int)) && decide ((k:Int) < m))=false:=by
    rw [Bool.and_eq_false_iff,decide_eq_false_iff_not,decide_eq_false_iff_not]
    omega
   by_cases hkn2:k < n
   ·have hki:(k:Int) < (n:Int):=by omega
    have hkm:¬ (k:Int) < m:=fun h=>hkn ⟨hkn2,h⟩
    go_wp2
    go_loop [6] (fun i=>∃ j:Nat,j≤n'∧i=.int .i64 j∧∀ y:Nat,y < j→y < 100→(C.getD y (0,[])).2.length≤100) (fun i=>n' - (intOf i).toNat)
    case atStart=>exact ⟨0,Nat.zero_le _,rfl,fun y hy=>by omega⟩
    case round =>
     obtain ⟨j,hj,rfl,hall⟩:=hrel
     have ALL:=Lh hall
     clear hall
     by_cases hjn:j < n'
     ·have hji:(j:Int) < (n':Int):=by omega
      by_cases hj100:j < 100
      ·have hj100i:(j:Int) < 100:=by omega
       obtain ⟨b,o,Ai,ni,ci,rfl,hlt,hc,hx,ha⟩:=HQ.out.pnds.at_ j hjn
       have hni:=ha.len
       have hLm:=Nat.le_trans ha.cap ha.max
       unfold maxLen at hLm
       obtain ⟨L,hL⟩:∃ L,L=(C.getD j (0,[])).2.length:=⟨_,rfl⟩
       have HL:=Lh hL
       rw [← hL] at hni
       subst hni
       clear hL ha
       by_cases h100:100 < L
       ·have HG:=Lh (H2.out j hjn hj100 (by rw [← HL.out];exact h100))
        have h100i:(100:Int) < (L:Int):=by omega
        go_wp2
        go_ret
        rw [HG.out]
        exact ⟨rfl,BEL.out⟩
       ·have h100i:¬ (100:Int) < (L:Int):=by omega
        go_wp2
        go_round
        case rel =>
         refine ⟨j + 1,by omega,by go_num,fun y hy hym=>?_⟩
         rcases Nat.lt_or_ge y j with h | h
         ·exact ALL.out y h hym
         ·obtain rfl:y=j:=by omega
          rw [← HL.out];omega
        case measure=>simp [intOf];omega
      ·have hj100i:¬ (j:Int) < 100:=by omega
       have HE:=Lh (END.out ALL2.out fun y h1 h2=>ALL.out y (by omega) h2)
       have h100n:(100:Int) < (n':Int):=by omega
       have hmn:m < (n:Int):=by omega
       have EM:=Lh (decide_eq_true hmn)
       go_wp2
       go_ret
       rw [HE.out,EM.out]
       exact ⟨rfl,BEL.out⟩
     ·have hji:¬ (j:Int) < (n':Int):=by omega
      have HE:=Lh (END.out ALL2.out fun y h1 h2=>ALL.out y (by omega) h2)
      have hmn:m < (n:Int):=by omega
      have EM:=Lh (decide_eq_true hmn)
      go_wp2
      go_ret
      rw [HE.out,EM.out]
      exact ⟨rfl,BEL.out⟩
   ·have hki:¬ (k:Int) < (n:Int):=by omega
    go_wp2
    go_loop [6] (fun i=>∃ j:Nat,j≤n'∧i=.int .i64 j∧∀ y:Nat,y < j→y < 100→(C.getD y (0,[])).2.length≤100) (fun i=>n' - (intOf i).toNat)
    case atStart=>exact ⟨0,Nat.zero_le _,rfl,fun y hy=>by omega⟩
    case round =>
     obtain ⟨j,hj,rfl,hall⟩:=hrel
     have ALL:=Lh hall
     clear hall
     by_cases hjn:j < n'
     ·have hji:(j:Int) < (n':Int):=by omega
      by_cases hj100:j < 100
      ·have hj100i:(j:Int) < 100:=by omega
       obtain ⟨b,o,Ai,ni,ci,rfl,hlt,hc,hx,ha⟩:=HQ.out.pnds.at_ j hjn
       have hni:=ha.len
       have hLm:=Nat.le_trans ha.cap ha.max
       unfold maxLen at hLm
       obtain ⟨L,hL⟩:∃ L,L=(C.getD j (0,[])).2.length:=⟨_,rfl⟩
       have HL:=Lh hL
       rw [← hL] at hni
       subst hni
       clear hL ha
       by_cases h100:100 < L
       ·have HG:=Lh (H2.out j hjn hj100 (by rw [← HL.out];exact h100))
        have h100i:(100:Int) < (L:Int):=by omega
        go_wp2
        go_ret
        rw [HG.out]
        exact ⟨rfl,BEL.out⟩
       ·have h100i:¬ (100:Int) < (L:Int):=by omega
        go_wp2
        go_round
        case rel =>
         refine ⟨j + 1,by omega,by go_num,fun y hy hym=>?_⟩
         rcases Nat.lt_or_ge y j with h | h
         ·exact ALL.out y h hym
         ·obtain rfl:y=j:=by omega
          rw [← HL.out];omega
        case measure=>simp [intOf];omega
      ·have hj100i:¬ (j:Int) < 100:=by omega
       have HE:=Lh (END.out ALL2.out fun y h1 h2=>ALL.out y (by omega) h2)
       have h100n:(100:Int) < (n':Int):=by omega
       have EN:=Lh (decide_eq_true (show 100 < n' by omega))
       by_cases hmn:m < (n:Int)
       ·have EM:=Lh (decide_eq_true hmn)
        go_wp2
        go_ret
        rw [HE.out,EM.out]
        exact ⟨rfl,BEL.out⟩
       ·have EM:=Lh (decide_eq_false hmn)
        go_wp2
        go_ret
        rw [HE.out,EM.out,EN.out]
        exact ⟨rfl,BEL.out⟩
     ·have hji:¬ (j:Int) < (n':Int):=by omega
      have HE:=Lh (END.out ALL2.out fun y h1 h2=>ALL.out y (by omega) h2)
      by_cases hmn:m < (n:Int)
      ·have EM:=Lh (decide_eq_true hmn)
       go_wp2
       go_ret
       rw [HE.out,EM.out]
       exact ⟨rfl,BEL.out⟩
      ·have EM:=Lh (decide_eq_false hmn)
       by_cases h100n:100 < n'
       ·have h100i:(100:Int) < (n':Int):=by omega
        have EN:=Lh (decide_eq_true h100n)
        go_wp2
        go_ret
        rw [HE.out,EM.out,EN.out]
        exact ⟨rfl,BEL.out⟩
       ·have h100i:¬ (100:Int) < (n':Int):=by omega
        have EN:=Lh (decide_eq_false h100n)
        go_wp2
        go_ret
        rw [HE.out,EM.out,EN.out]
        exact ⟨rfl,BEL.out⟩
def BytesOut (w:World) (b:Txt) (E:Int) (e:Ending) (w':World):Prop :=
 ∃ A c,e=.returned (.tuple #[.slice A b.length c,.int .i64 E])∧w'.ownsRow w.heap.size 5 1 (.slice A b.length c) b.length (ints .u8 b)∧Below w.heap.size w w'
theorem pend_hit {C:List Pnd} {at_:Int} {k:Nat} (hk:k < C.length) (h:(C.getD k (0,[])).1=at_):pendB C at_=true:=by
 unfold pendB
 rw [List.any_eq_true]
 rw [gtD,geE hk,Option.getD_some] at h
 exact ⟨C[k],List.getElem_mem hk,by rw [h];simp⟩
theorem ask_zero {S:List Sec} {C:List Pnd} {at_:Int} (h:askE S C at_=0):mayD S C=true∧∃ a:Nat,at_=a∧a < S.length:=by
 unfold askE at h
 cases hR:mayD S C with
 | false=>rw [hR] at h;simp at h
 | true =>
  rw [hR] at h
  simp only [if_true] at h
  by_cases hx:at_ < 0∨(S.length:Int)≤at_
  ·rw [if_pos hx] at h;omega
  ·exact ⟨rfl,at_.toNat,by omega,by omega⟩
def DiskOut (w:World) (S:List Sec) (C:List Pnd) (E:Int) (e:Ending) (w':World):Prop :=
 ∃ A c A' c',e=.returned (.tuple #[diskV A S.length c A' C.length c',.int .i64 E])∧OwnDsk w' w.heap.size A S.length c A' C.length c' S C∧Below w.heap.size w w'
theorem byFate_len (S:List Sec) (p:Pnd) (f:Int):(byFate S p f).length=S.length:=by unfold byFate;split <;> (try split) <;> simp
theorem behindK_len (S:List Sec) (C:List Pnd) (F:List Int) (k:Nat):(behindK S C F k).length=S.length:=by
 induction k with
 | zero=>rfl
 | succ k ih=>unfold behindK;rw [byFate_len,ih]
end Go.Proofs.Ytdbeiikaeccbhaa
