/- Texts of the layers below, joined. -/
import Derived.Test.YtdbeiikaeccbhaaDa7
import Derived.Lib.SliceRun
import Derived.Deep.RegionWith
set_option maxRecDepth 100000
set_option maxHeartbeats 12800000
set_option linter.unusedVariables false
namespace Go.Proofs.Ytdbeiikaeccbhaa
open Go.RowKit
theorem isMany_any (m:Int) (w:World):Calls Try.prog 71 #[.int .i64 m] w fun e w'=>e=.returned (.bool (decide (1≤m∧m≤1024)))∧w'=w:=by
 by_cases h1:1≤m
 ·by_cases h2:m≤1024
  ·rw [decide_eq_true (show 1≤m∧m≤1024 from ⟨h1,h2⟩)]
   go_enter Try.func71,Try.ntmps71
   go_wp2
   go_ret
   exact ⟨rfl,rfl⟩
  ·rw [decide_eq_false (show ¬ (1≤m∧m≤1024) from fun h=>h2 h.2)]
   go_enter Try.func71,Try.ntmps71
   go_wp2
   go_ret
   exact ⟨rfl,rfl⟩
 ·rw [decide_eq_false (show ¬ (1≤m∧m≤1024) from fun h=>h1 h.1)]
  go_enter Try.func71,Try.ntmps71
  go_wp2
  go_ret
  exact ⟨rfl,rfl⟩
theorem isAt_any (m t:Int) (w:World):Calls Try.prog 90 #[.int .i64 m,.int .i64 t] w fun e w'=>e=.returned (.bool (decide (0≤t∧t < m)))∧w'=w:=by
 by_cases h1:0≤t
 ·by_cases h2:t < m
  ·rw [decide_eq_true (show 0≤t∧t < m from ⟨h1,h2⟩)]
   go_enter Try.func90,Try.ntmps90
   go_wp2
   go_ret
   exact ⟨rfl,rfl⟩
  ·rw [decide_eq_false (show ¬ (0≤t∧t < m) from fun h=>h2 h.2)]
   go_enter Try.func90,Try.ntmps90
   go_wp2
   go_ret
   exact ⟨rfl,rfl⟩
 ·rw [decide_eq_false (show ¬ (0≤t∧t < m) from fun h=>h1 h.1)]
  go_enter Try.func90,Try.ntmps90
  go_wp2
  go_ret
  exact ⟨rfl,rfl⟩
theorem make32 (w:World):(Instr.makeSlice 22 (.int .i64 32) (.int .i64 32)).run Try.prog w=.ok (.slice (some ⟨w.heap.size,0,none⟩) 32 32) (w.alloc (.cells (ints .u8 noughts).toArray 5)):=by
 obtain ⟨i0,hi0,hz0,hz1,hz2⟩:=info_parts byte_info
 have:=run_make1 (P:=Try.prog) 22 5 i0 _ Try.underlying22 hi0 hz0 hz1 rfl 32 (by rw [hz2];omega) (by decide) w
 exact this
theorem noughts_any (w:World):Calls Try.prog 95 #[] w fun e w'=>e=.returned (.slice (some ⟨w.heap.size,0,none⟩) 32 32)∧w'=w.alloc (.cells (ints .u8 noughts).toArray 5):=by
 have hm:=make32 w
 go_enter Try.func95,Try.ntmps95
 go_wp2
 go_ret
 exact ⟨rfl,rfl⟩
theorem nown32 (w:World):(w.alloc (.cells (ints .u8 noughts).toArray 5)).ownsRow w.heap.size 5 1 (.slice (some ⟨w.heap.size,0,none⟩) 32 32) 32 (ints .u8 noughts) :=
 (Blk.new w 5 (ints .u8 noughts)).owns (Nat.le_refl _) rfl (by decide)
theorem noughts_bytes:∀ z ∈ noughts,isByte z:=by
 intro z hz
 rw [List.eq_of_mem_replicate hz]
 exact ⟨by decide,by decide⟩
theorem equal_any (A:Option Addr) (n c:Nat) (x:Txt) (A':Option Addr) (n' c':Nat) (y:Txt) (w:World) (hx:Arg w .u8 A n c x) (hy:Arg w .u8 A' n' c' y) (bx:∀ z ∈ x,isByte z) (by_:∀ z ∈ y,isByte z) :
  Calls Try.prog 94 #[.slice A n c,.slice A' n' c'] w fun e w'=>e=.returned (.bool (decide (x=y)))∧w'=w:=by
 have hst1:=run_str (P:=Try.prog) w 22 9 5 Try.underlying22 Try.underlying5 Try.underlying9 (c:=c) hx.seq hx.len
 have hst2:=run_str (P:=Try.prog) w 22 9 5 Try.underlying22 Try.underlying5 Try.underlying9 (c:=c') hy.seq hy.len
 have hse:=strs_eq bx by_
 obtain ⟨R,hR⟩:∃ R,R=decide (x=y):=⟨_,rfl⟩
 rw [← hR] at hse ⊢
 clear hR hx hy bx by_
 go_enter Try.func94,Try.ntmps94
 go_wp2
 go_ret
 exact ⟨rfl,rfl⟩
theorem bclone_any (A:Option Addr) (n c:Nat) (x:Txt) (w:World) (hx:Arg w .u8 A n c x) (hn:n≤100000) :
  Calls Try.prog 70 #[.slice A n c] w fun e w'=>∃ A' c',e=.returned (.slice A' n c')∧w'.ownsRow w.heap.size 5 1 (.slice A' n c') n (ints .u8 x)∧Below w.heap.size w w':=by
 obtain ⟨i0,hi0,hz0,hz1,hz2⟩:=info_parts byte_info
 have hml:(100000:Nat)≤maxLen:=by decide
 have hnil:=Lib.run_eql_slice_nil (P:=Try.prog) w 22 5 A n c 0 0 Try.underlying22
 cases A with
 | none =>
  have hx0:x=[]:=by
   cases x with
   | nil=>rfl
   | cons a r=>obtain ⟨_,_,e,_⟩:=hx.seq 0 _ rfl;cases e
  subst hx0
  have hn0:n=0:=by simpa using hx.len.symm
  subst hn0
  clear hx
  go_enter Try.func70,Try.ntmps70
  go_wp2
  go_ret
  exact ⟨none,0,rfl,World.ownsRow_nil _ _ _ _,Below.refl _ _⟩
 | some a =>
  have HX:=Lh hx
  clear hx
  go_enter Try.func70,Try.ntmps70
  go_wp2_with (at_builtin;refine wpList_dup w (by rfl) (.tmp 5) (.tmp 6) 22 (by rfl) 5 i0 _ 1 Try.underlying22 hi0 hz0 hz1 hz2 rfl (by rfl) (some a) n c (ints .u8 x) (by rfl) (by rw [ints_length];exact HX.out.len) HX.out.seq (ints_one _ _) (by omega) (by omega) ?_;intro A' c' w' hown hb;have O:=Lh hown;have B:=Lh hb;clear hown hb)
  go_ret
  exact ⟨A',c',rfl,O.out,B.out⟩
def pndOkI (m:Int) (p:Pnd):Bool:=decide (0≤p.1) && decide (p.1 < m) && decide (p.2.length=32)
theorem all_getD {α:Type} (l:List α) (z:α) (f:α→Bool) (h:∀ k,k < l.length→f (l.getD k z)=true):l.all f=true:=by
 rw [List.all_eq_true]
 intro s hs
 obtain ⟨k,hk,rfl⟩:=List.getElem_of_mem hs
 have:=h k hk
 rwa [gtD,geE hk,Option.getD_some] at this
theorem all_getD_no {α:Type} (l:List α) (z:α) (f:α→Bool) {k:Nat} (hk:k < l.length) (h:f (l.getD k z)=false):l.all f=false:=by
 rw [List.all_eq_false]
 refine ⟨l[k],List.getElem_mem hk,?_⟩
 rw [gtD,geE hk,Option.getD_some] at h
 rw [h];simp
theorem areWrites_any (m:Int) (A:Option Addr) (n c:Nat) (C:List Pnd) (w:World) (h:Pnds w A n c C) :
  Calls Try.prog 68 #[.int .i64 m,.slice A n c] w fun e w'=>e=.returned (.bool (C.all (pndOkI m)))∧Below w.heap.size w w':=by
 have hl:=h.len
 have hcm:=Nat.le_trans h.cap h.max
 unfold maxLen at hcm
 have YES:=Lh (all_getD C (0,[]) (pndOkI m))
 have NO:=Lh (fun k=>all_getD_no C (0,[]) (pndOkI m) (k:=k))
 rw [hl] at YES NO
 obtain ⟨R,hR⟩:∃ R,R=C.all (pndOkI m):=⟨_,rfl⟩
 rw [← hR] at YES NO ⊢
 have H:=Lh h
 clear h hl hR
 go_enter Try.func68,Try.ntmps68
 go_wp2
 go_loopw [9] (fun i wr=>∃ k:Nat,k≤n∧i=.int .i64 k∧(∀ y,y < k→pndOkI m (C.getD y (0,[]))=true)∧Below w.heap.size w wr) (fun i _=>n - (intOf i).toNat)
 case atStart=>exact ⟨0,Nat.zero_le _,rfl,fun y hy=>by omega,Below.refl _ _⟩
 case round =>
  obtain ⟨k,hk,rfl,hall,hb⟩:=hrel
  have ALL:=Lh hall
  have B:=Lh hb
  by_cases hkn:k < n
  ·have hki:(k:Int) < (n:Int):=by omega
   obtain ⟨b,o,Ai,ni,ci,rfl,hlt,hc,hx,ha⟩:=(H.out.below hb).at_ k hkn
   have hok:pndOkI m (C.getD k (0,[]))=(decide (0≤(C.getD k (0,[])).1∧(C.getD k (0,[])).1 < m) && decide (ni=32)):=by
    unfold pndOkI
    rw [ha.len]
    simp
   obtain ⟨t,ht⟩:∃ t,t=(C.getD k (0,[])).1:=⟨_,rfl⟩
   rw [← ht] at hx hok
   have NK:=Lh (NO.out k hkn)
   obtain ⟨P,hP⟩:∃ P,P=pndOkI m (C.getD k (0,[])):=⟨_,rfl⟩
   rw [← hP] at hok NK
   have HP:=Lh hP
   have hcn:=Nat.le_trans ha.cap ha.max
   unfold maxLen at hcn
   have I:=isAt_any m t (wr.alloc (.cells #[.int .i64 t,.slice Ai ni ci] 33))
   have q0:(wr.alloc (.cells #[.int .i64 t,.slice Ai ni ci] 33)).cell? ⟨wr.heap.size,0,none⟩=some (.int .i64 t):=(Blk.new wr 33 [.int .i64 t,.slice Ai ni ci]).cell 0
   have q1:(wr.alloc (.cells #[.int .i64 t,.slice Ai ni ci] 33)).cell? ⟨wr.heap.size,1,none⟩=some (.slice Ai ni ci):=(Blk.new wr 33 [.int .i64 t,.slice Ai ni ci]).cell 1
   have B2:=Lh (hb.alloc (B.out.size) (.cells #[.int .i64 t,.slice Ai ni ci] 33))
   clear hall hb ha hP ht
   cases hd:decide (0≤t∧t < m) with
   | false =>
    rw [hd] at I hok
    rw [Bool.false_and] at hok
    have HR:=Lh (NK.out hok)
    have I:=Lh I
    clear hd hok
    go_wp2_with fail
    refine I.out.mono ?_
    rintro e w' ⟨rfl,rfl⟩
    go_wp2
    go_ret
    rw [HR.out]
    exact ⟨rfl,B2.out⟩
   | true =>
    rw [hd] at I hok
    rw [Bool.true_and] at hok
    have I:=Lh I
    by_cases h32:ni=32
    ·have hq:((ni:Int) != 32)=false:=by subst h32;rfl
     have HOK:=Lh (HP.out.symm.trans (hok.trans (decide_eq_true h32)))
     clear hd hok h32
     go_wp2_with fail
     refine I.out.mono ?_
     rintro e w' ⟨rfl,rfl⟩
     go_wp2
     go_roundw
     case rel =>
      refine ⟨k + 1,by omega,by go_num,fun y hy=>?_,B2.out⟩
      rcases Nat.lt_or_ge y k with h' | h'
      ·exact ALL.out y h'
      ·obtain rfl:y=k:=by omega
       exact HOK.out
     case measure=>simp [intOf];omega
    ·have hq:((ni:Int) != 32)=true:=bne_iff_ne.2 (by omega)
     have HR:=Lh (NK.out (hok.trans (decide_eq_false h32)))
     clear hd hok h32
     go_wp2_with fail
     refine I.out.mono ?_
     rintro e w' ⟨rfl,rfl⟩
     go_wp2
     go_ret
     rw [HR.out]
     exact ⟨rfl,B2.out⟩
  ·obtain rfl:k=n:=by omega
   have HR:=Lh (YES.out hall)
   clear hall hb
   go_wp2
   go_ret
   rw [HR.out]
   exact ⟨rfl,B.out⟩
theorem secOk_len {s:Sec} (h:s.2.length≠32):secOk s=false:=by unfold secOk;rw [decide_eq_false h,Bool.false_and]
theorem secOk_good {s:Sec} (h:s.2.length=32) (hb:s.1=false):secOk s=true:=by unfold secOk;rw [decide_eq_true h,hb];rfl
theorem secOk_bad {s:Sec} (h:s.2.length=32) (hb:s.1=true):secOk s=decide (s.2=noughts):=by
 unfold secOk
 rw [decide_eq_true h,hb,Bool.true_and,Bool.not_true,Bool.false_or]
 by_cases e:s.2=noughts
 ·rw [decide_eq_true e,e,List.all_eq_true]
  intro z hz
  rw [List.eq_of_mem_replicate hz]
  rfl
 ·rw [decide_eq_false e]
  cases hall:s.2.all fun z=>decide (z=0) with
  | false=>rfl
  | true =>
   refine absurd (List.eq_replicate_iff.2 ⟨h,fun z hz=>?_⟩) e
   have:=List.all_eq_true.1 hall z hz
   exact decide_eq_true_iff.1 this
theorem areSectors_any (A:Option Addr) (n c:Nat) (S:List Sec) (w:World) (h:Secs w A n c S) :
  Calls Try.prog 72 #[.slice A n c] w fun e w'=>e=.returned (.bool (S.all secOk))∧Below w.heap.size w w':=by
 have hl:=h.len
 have hcm:=Nat.le_trans h.cap h.max
 unfold maxLen at hcm
 have YES:=Lh (all_getD S (false,[]) secOk)
 have NO:=Lh (fun k=>all_getD_no S (false,[]) secOk (k:=k))
 rw [hl] at YES NO
 obtain ⟨R,hR⟩:∃ R,R=S.all secOk:=⟨_,rfl⟩
 rw [← hR] at YES NO ⊢
 have H:=Lh h
 clear h hl hR
 go_enter Try.func72,Try.ntmps72
 go_wp2
 go_loopw [7] (fun i wr=>∃ k:Nat,k≤n∧i=.int .i64 k∧(∀ y,y < k→secOk (S.getD y (false,[]))=true)∧Below w.heap.size w wr) (fun i _=>n - (intOf i).toNat)
 case atStart=>exact ⟨0,Nat.zero_le _,rfl,fun y hy=>by omega,Below.refl _ _⟩
 case round =>
  obtain ⟨k,hk,rfl,hall,hb⟩:=hrel
  have ALL:=Lh hall
  have B:=Lh hb
  by_cases hkn:k < n
  ·have hki:(k:Int) < (n:Int):=by omega
   have hS:=H.out.below hb
   obtain ⟨b,o,Ai,ni,ci,rfl,hlt,hc,hx,ha⟩:=hS.at_ k hkn
   have hby:=hS.byte_at k
   have NK:=Lh (NO.out k hkn)
   obtain ⟨s,hs⟩:∃ s,s=S.getD k (false,[]):=⟨_,rfl⟩
   rw [← hs] at hx ha hby NK
   have HS:=Lh hs
   obtain ⟨bad,x⟩:=s
   have hlen:x.length=ni:=ha.len
   have hcn:=Nat.le_trans ha.cap ha.max
   unfold maxLen at hcn
   have q0:(wr.alloc (.cells #[.slice Ai ni ci,.bool bad] 86)).cell? ⟨wr.heap.size,0,none⟩=some (.slice Ai ni ci):=(Blk.new wr 86 [.slice Ai ni ci,.bool bad]).cell 0
   have q1:(wr.alloc (.cells #[.slice Ai ni ci,.bool bad] 86)).cell? ⟨wr.heap.size,1,none⟩=some (.bool bad):=(Blk.new wr 86 [.slice Ai ni ci,.bool bad]).cell 1
   have B2:=Lh (hb.alloc (B.out.size) (.cells #[.slice Ai ni ci,.bool bad] 86))
   have ha2:=ha.below ((Below.refl wr.heap.size wr).alloc (Nat.le_refl _) (.cells #[.slice Ai ni ci,.bool bad] 86))
   by_cases h32:ni=32
   ·have hq:((ni:Int) != 32)=false:=by subst h32;rfl
    cases bad with
    | false =>
     have HOK:=Lh (secOk_good (s:=(false,x)) (hlen.trans h32) rfl)
     clear hall hb ha ha2 hs hS hby hlen h32
     go_wp2
     go_region
     go_wp2
     go_roundw
     case rel =>
      refine ⟨k + 1,by omega,by go_num,fun y hy=>?_,below_drewN B2.out 1⟩
      rcases Nat.lt_or_ge y k with h' | h'
      ·exact ALL.out y h'
      ·obtain rfl:y=k:=by omega
       rw [← HS.out]
       exact HOK.out
     case measure=>simp [intOf];omega
    | true =>
     subst h32
     have hok:=secOk_bad (s:=(true,x)) hlen rfl
     obtain ⟨wb,hwb⟩:∃ wb,wb=wr.alloc (.cells #[.slice Ai 32 ci,.bool true] 86):=⟨_,rfl⟩
     have hsz:wb.heap.size=wr.heap.size + 1:=by rw [hwb];simp
     rw [← hwb] at q0 q1 B2 ha2
     obtain ⟨w2,hw2⟩:∃ w2,w2=wb.drew.alloc (.cells (ints .u8 noughts).toArray 5):=⟨_,rfl⟩
     have hb2:Below wb.heap.size wb w2:=by rw [hw2];exact (below_drewN (Below.refl _ _) 1).alloc (Nat.le_refl _) _
     have q2:w2.cell? ⟨wr.heap.size,0,none⟩=some (.slice Ai 32 ci):=(hb2.cell (p:=⟨wr.heap.size,0,none⟩) (by rw [hsz];exact Nat.lt_succ_self _)).trans q0
     have NO:=noughts_any wb.drew
     have hown:=nown32 wb.drew
     change Calls _ _ _ _ (fun e w'=>e=.returned (.slice (some ⟨wb.heap.size,0,none⟩) 32 32)∧w'=wb.drew.alloc (.cells (ints .u8 noughts).toArray 5)) at NO
     change (wb.drew.alloc (.cells (ints .u8 noughts).toArray 5)).ownsRow wb.heap.size 5 1 (.slice (some ⟨wb.heap.size,0,none⟩) 32 32) 32 (ints .u8 noughts) at hown
     rw [← hw2] at NO hown
     rw [hsz] at NO hown
     have EQ:=equal_any Ai 32 ci x (some ⟨wr.heap.size + 1,0,none⟩) 32 32 noughts w2 (ha2.below hb2) (Arg.own hown) hby noughts_bytes
     have B3:=Lh (B2.out.trans (hb2.mono B2.out.size))
     have EQ:=Lh EQ
     have NO:=Lh NO
     cases hx0:decide (x=noughts) with
     | true =>
      rw [hx0] at EQ hok
      have HOK:=Lh hok
      clear hall hb ha ha2 hs hS hby hlen hok hx0 hw2 hown hb2
      go_wp2
      rw [← hwb]
      clear hwb
      go_region_with ((first | (go_at_call 95;refine NO.out.mono ?_;rintro e w' ⟨rfl,rfl⟩) | (go_at_call 94;refine EQ.out.mono ?_;rintro e w' ⟨rfl,rfl⟩)))
      all_goals (
       go_wp2
       go_roundw
       case rel =>
        refine ⟨k + 1,by omega,by go_num,fun y hy=>?_,B3.out⟩
        rcases Nat.lt_or_ge y k with h' | h'
        ·exact ALL.out y h'
        ·obtain rfl:y=k:=by omega
         rw [← HS.out]
         exact HOK.out
       case measure=>simp [intOf];omega)
     | false =>
      rw [hx0] at EQ hok
      have HR:=Lh (NK.out hok)
      clear hall hb ha ha2 hs hS hby hlen hok hx0 hw2 hown hb2
      go_wp2
      rw [← hwb]
      clear hwb
      go_region_with ((first | (go_at_call 95;refine NO.out.mono ?_;rintro e w' ⟨rfl,rfl⟩) | (go_at_call 94;refine EQ.out.mono ?_;rintro e w' ⟨rfl,rfl⟩)))
      all_goals (
       go_wp2
       go_ret
       rw [HR.out]
       exact ⟨rfl,B3.out⟩)
   ·have hq:((ni:Int) != 32)=true:=bne_iff_ne.2 (by omega)
    have HR:=Lh (NK.out (secOk_len (s:=(bad,x)) (by rw [hlen];exact h32)))
    clear hall hb ha ha2 hs hS hby hlen h32
    go_wp2
    go_region
    go_wp2
    go_ret
    rw [HR.out]
    exact ⟨rfl,below_drewN B2.out 1⟩
  ·obtain rfl:k=n:=by omega
   have HR:=Lh (YES.out hall)
   clear hall hb
   go_wp2
   go_ret
   rw [HR.out]
   exact ⟨rfl,B.out⟩
theorem chk_yes {S:List Sec} {C:List Pnd} (h:1≤S.length∧S.length≤1024) (hc:C.length≤64) (h1:S.all secOk=true) (h2:C.all (pndOkI S.length)=true):chkD S C=0:=by
 unfold chkD mayD
 rw [decide_eq_true h.1,decide_eq_true h.2,decide_eq_true hc,h1,show C.all (pndOk S.length)=true from h2]
 rfl
theorem chk_no1 {S:List Sec} {C:List Pnd} (h:¬ (1≤S.length∧S.length≤1024∧C.length≤64)):chkD S C=8:=by
 unfold chkD
 rw [if_neg]
 intro hm
 exact h ((mayD_iff S C).1 hm).1
theorem chk_no2 {S:List Sec} {C:List Pnd} (h:S.all secOk=false):chkD S C=8:=by
 unfold chkD mayD
 rw [h]
 simp
theorem chk_no3 {S:List Sec} {C:List Pnd} (h:C.all (pndOkI S.length)=false):chkD S C=8:=by
 unfold chkD mayD
 rw [show C.all (pndOk S.length)=false from h]
 simp
theorem check_any (A:Option Addr) (n c:Nat) (A':Option Addr) (n' c':Nat) (S:List Sec) (C:List Pnd) (w:World) (hq:Dsk w A n c A' n' c' S C) :
  Calls Try.prog 40 #[diskV A n c A' n' c'] w fun e w'=>e=.returned (.int .i64 (chkD S C))∧Below w.heap.size w w':=by
 have hbel:Below w.heap.size w (w.alloc (.cells #[.slice A n c,.slice A' n' c'] 56)):=(Below.refl _ _).alloc (Nat.le_refl _) _
 obtain ⟨c0,c1⟩:=box_disk w A n c A' n' c'
 have hl:=hq.secs.len
 have hl':=hq.pnds.len
 have hcm:=Nat.le_trans hq.secs.cap hq.secs.max
 have hcm':=Nat.le_trans hq.pnds.cap hq.pnds.max
 unfold maxLen at hcm hcm'
 have Y:=chk_yes (S:=S) (C:=C)
 have N1:=chk_no1 (S:=S) (C:=C)
 have N2:=chk_no2 (S:=S) (C:=C)
 have N3:=chk_no3 (S:=S) (C:=C)
 rw [hl,hl'] at N1
 rw [hl] at Y N3
 rw [hl'] at Y
 obtain ⟨R,hR⟩:∃ R,R=chkD S C:=⟨_,rfl⟩
 rw [← hR] at Y N1 N2 N3 ⊢
 obtain ⟨w1,hw1⟩:∃ w1,w1=w.alloc (.cells #[.slice A n c,.slice A' n' c'] 56):=⟨_,rfl⟩
 have hsz:w1.heap.size=w.heap.size + 1:=by rw [hw1];simp
 rw [← hw1] at hbel c0 c1
 have HQ:=hq.below hbel
 have IM:=isMany_any n w1
 have AS:=areSectors_any A n c S w1 HQ.secs
 have AW:=fun w2 (hb:Below w1.heap.size w1 w2)=>areWrites_any n A' n' c' C w2 (HQ.pnds.below hb)
 have BEL:=Lh hbel
 clear hbel hq HQ hl hl' hR
 have IM:=Lh IM
 cases hm:decide (1≤(n:Int)∧(n:Int)≤1024) with
 | false =>
  have hmm:=of_decide_eq_false hm
  have HR:=Lh (N1 (by omega))
  rw [hm] at IM
  clear hm hmm Y N1 N2 N3 AS AW
  go_enter Try.func40,Try.ntmps40
  go_wp2_with fail
  rw [← hw1]
  clear hw1
  refine IM.out.mono ?_
  rintro e w' ⟨rfl,rfl⟩
  go_wp2
  go_ret
  rw [HR.out]
  exact ⟨rfl,BEL.out⟩
 | true =>
  have hmm:=of_decide_eq_true hm
  rw [hm] at IM
  by_cases h64:n'≤64
  ·have h64i:((n':Int) > 64)=False:=by simp;omega
   have h64d:decide ((64:Int) < (n':Int))=false:=decide_eq_false (by omega)
   cases hs:S.all secOk with
   | false =>
    have HR:=Lh (N2 hs)
    rw [hs] at AS
    have AS:=Lh AS
    clear hm hmm Y N1 N2 N3 AW hs
    go_enter Try.func40,Try.ntmps40
    go_wp2_with fail
    rw [← hw1]
    clear hw1
    refine IM.out.mono ?_
    rintro e w' ⟨rfl,rfl⟩
    go_wp2_with fail
    refine AS.out.mono ?_
    rintro e w2 ⟨rfl,hb2⟩
    have B2:=Lh (BEL.out.trans (hb2.mono BEL.out.size))
    clear hb2
    go_wp2
    go_ret
    rw [HR.out]
    exact ⟨rfl,B2.out⟩
   | true =>
    rw [hs] at AS
    cases hp:C.all (pndOkI n) with
    | false =>
     rw [hp] at AW
     have HR:=Lh (N3 hp)
     have AS:=Lh AS
     have AW:=Lh AW
     clear hm hmm Y N1 N2 N3 hs hp
     go_enter Try.func40,Try.ntmps40
     go_wp2_with fail
     rw [← hw1]
     clear hw1
     refine IM.out.mono ?_
     rintro e w' ⟨rfl,rfl⟩
     go_wp2_with fail
     refine AS.out.mono ?_
     rintro e w2 ⟨rfl,hb2⟩
     have B2:=Lh (BEL.out.trans (hb2.mono BEL.out.size))
     have d1:=(hb2.cell (p:=⟨w.heap.size,1,none⟩) (by rw [hsz];exact Nat.lt_succ_self _)).trans c1
     have AW:=Lh (AW.out w2 hb2)
     clear hb2
     go_wp2_with fail
     refine AW.out.mono ?_
     rintro e w3 ⟨rfl,hb3⟩
     have B3:=Lh (B2.out.trans (hb3.mono B2.out.size))
     clear hb3
     go_wp2
     go_ret
     rw [HR.out]
     exact ⟨rfl,B3.out⟩
    | true =>
     rw [hp] at AW
     have HR:=Lh (Y (by omega) h64 hs hp)
     have AS:=Lh AS
     have AW:=Lh AW
     clear hm hmm Y N1 N2 N3 hs hp
     go_enter Try.func40,Try.ntmps40
     go_wp2_with fail
     rw [← hw1]
     clear hw1
     refine IM.out.mono ?_
     rintro e w' ⟨rfl,rfl⟩
     go_wp2_with fail
     refine AS.out.mono ?_
     rintro e w2 ⟨rfl,hb2⟩
     have B2:=Lh (BEL.out.trans (hb2.mono BEL.out.size))
     have d1:=(hb2.cell (p:=⟨w.heap.size,1,none⟩) (by rw [hsz];exact Nat.lt_succ_self _)).trans c1
     have AW:=Lh (AW.out w2 hb2)
     clear hb2
     go_wp2_with fail
     refine AW.out.mono ?_
     rintro e w3 ⟨rfl,hb3⟩
     have B3:=Lh (B2.out.trans (hb3.mono B2.out.size))
     clear hb3
     go_wp2
     go_ret
     rw [HR.out]
     exact ⟨rfl,B3.out⟩
  ·have h64i:(64:Int) < (n':Int):=by omega
   have HR:=Lh (N1 (by omega))
   clear hm hmm Y N1 N2 N3 AS AW
   go_enter Try.func40,Try.ntmps40
   go_wp2_with fail
   rw [← hw1]
   clear hw1
   refine IM.out.mono ?_
   rintro e w' ⟨rfl,rfl⟩
   go_wp2
   go_ret
   rw [HR.out]
   exact ⟨rfl,BEL.out⟩
theorem ask_chk {S:List Sec} {C:List Pnd} {t:Int} (h:chkD S C≠0):askE S C t=chkD S C:=by
 unfold askE chkD at *
 split at h
 ·exact absurd rfl h
 ·rename_i hm;rw [if_neg hm,if_neg hm]
theorem ask_at {S:List Sec} {C:List Pnd} {t:Int} (h:chkD S C=0):askE S C t=if 0≤t∧t < (S.length:Int) then 0 else 2:=by
 unfold askE chkD at *
 split at h
 ·rename_i hm
  rw [if_pos hm]
  by_cases hc:0≤t∧t < (S.length:Int)
  ·rw [if_pos hc,if_neg (by omega)]
  ·rw [if_neg hc,if_pos (by omega)]
 ·omega
theorem checkAt_any (A:Option Addr) (n c:Nat) (A':Option Addr) (n' c':Nat) (S:List Sec) (C:List Pnd) (t:Int) (w:World) (hq:Dsk w A n c A' n' c' S C) :
  Calls Try.prog 87 #[diskV A n c A' n' c',.int .i64 t] w fun e w'=>e=.returned (.int .i64 (askE S C t))∧Below w.heap.size w w':=by
 have hbel:Below w.heap.size w (w.alloc (.cells #[.slice A n c,.slice A' n' c'] 56)):=(Below.refl _ _).alloc (Nat.le_refl _) _
 obtain ⟨c0,c1⟩:=box_disk w A n c A' n' c'
 have hl:=hq.secs.len
 have hcm:=Nat.le_trans hq.secs.cap hq.secs.max
 unfold maxLen at hcm
 have N:=ask_chk (S:=S) (C:=C) (t:=t)
 have Y:=ask_at (S:=S) (C:=C) (t:=t)
 rw [hl] at Y
 obtain ⟨w1,hw1⟩:∃ w1,w1=w.alloc (.cells #[.slice A n c,.slice A' n' c'] 56):=⟨_,rfl⟩
 have hsz:w1.heap.size=w.heap.size + 1:=by rw [hw1];simp
 rw [← hw1] at hbel c0 c1
 have CK:=check_any A n c A' n' c' S C w1 (hq.below hbel)
 obtain ⟨R,hR⟩:∃ R,R=askE S C t:=⟨_,rfl⟩
 obtain ⟨E,hE⟩:∃ E,E=chkD S C:=⟨_,rfl⟩
 rw [← hR,← hE] at Y N
 rw [← hE] at CK
 rw [← hR]
 have CK:=Lh CK
 have BEL:=Lh hbel
 clear hq hbel hl hR hE
 by_cases he:E=0
 ·subst he
  have IA:=isAt_any n t
  have HR:=Y rfl
  by_cases hat:0≤t∧t < (n:Int)
  ·rw [if_pos hat] at HR
   rw [decide_eq_true hat] at IA
   have HR:=Lh HR
   have IA:=Lh IA
   clear Y N hat
   go_enter Try.func87,Try.ntmps87
   go_wp2_with fail
   rw [← hw1]
   clear hw1
   refine CK.out.mono ?_
   rintro e w2 ⟨rfl,hb2⟩
   have B2:=Lh (BEL.out.trans (hb2.mono BEL.out.size))
   have d0:=(hb2.cell (p:=⟨w.heap.size,0,none⟩) (by rw [hsz];exact Nat.lt_succ_self _)).trans c0
   clear hb2
   go_wp2_with fail
   refine (IA.out _).mono ?_
   rintro e w' ⟨rfl,rfl⟩
   go_wp2
   go_ret
   rw [HR.out]
   exact ⟨rfl,B2.out⟩
  ·rw [if_neg hat] at HR
   rw [decide_eq_false hat] at IA
   have HR:=Lh HR
   have IA:=Lh IA
   clear Y N hat
   go_enter Try.func87,Try.ntmps87
   go_wp2_with fail
   rw [← hw1]
   clear hw1
   refine CK.out.mono ?_
   rintro e w2 ⟨rfl,hb2⟩
   have B2:=Lh (BEL.out.trans (hb2.mono BEL.out.size))
   have d0:=(hb2.cell (p:=⟨w.heap.size,0,none⟩) (by rw [hsz];exact Nat.lt_succ_self _)).trans c0
   clear hb2
   go_wp2_with fail
   refine (IA.out _).mono ?_
   rintro e w' ⟨rfl,rfl⟩
   go_wp2
   go_ret
   rw [HR.out]
   exact ⟨rfl,B2.out⟩
 ·have HR:=Lh (N he)
  have hne:(E != 0)=true:=bne_iff_ne.2 he
  clear Y N he
  go_enter Try.func87,Try.ntmps87
  go_wp2_with fail
  rw [← hw1]
  clear hw1
  refine CK.out.mono ?_
  rintro e w2 ⟨rfl,hb2⟩
  have B2:=Lh (BEL.out.trans (hb2.mono BEL.out.size))
  clear hb2
  go_wp2
  go_ret
  rw [HR.out]
  exact ⟨rfl,B2.out⟩
theorem lists_yes {α:Type} {l m:List α} (z:α) (hl:l.length=m.length) (h:∀ k,k < l.length→l.getD k z=m.getD k z):l=m:=by
 apply List.ext_getElem hl
 intro k h1 h2
 have:=h k h1
 rwa [gtD,gtD,geE h1,geE h2] at this
theorem run_append_types {P:Program} {t t' e:TypeId} (ht:P.underlying t=some (.slice e)) (ht':P.underlying t'=some (.slice e)) (ty:TypeId) (A:Option Addr) (n c:Nat) (A':Option Addr) (n' c':Nat) (w:World) :
  (Builtin.append_ #[t,t'] ty #[.slice A n c,.slice A' n' c']).run P w=(Builtin.append_ #[t',t'] ty #[.slice A n c,.slice A' n' c']).run P w:=by
 simp [Builtin.append_,run_underlying ht,run_underlying ht']
theorem wpList_app_eq {P:Program} {w w':World} {ops:Array Oper} {rest:List Oper} {o:Oper} {a:Act} {Q:Exit→Act→World→Prop} (hgd:o.guard=none) (s x:Operand) (t t':TypeId)
  (ho:o.op=.call { callee:=.builtin .append,args:=#[s,x],argTypes:=#[t,t'] }) {v u v':Value} (hs:a.eval s=v) (hx:a.eval x=u)
  (hrun:(Builtin.append_ #[t,t'] o.type #[v,u]).run P w=.ok v' w') (h:wpList P ops Q rest (a.put o.dst v') w'):wpList P ops Q (o :: rest) a w:=by
 refine wpList_plain hgd fun K hK=>?_
 unfold Oper.wp execOp
 simp only [ho,resolve,invoke,builtin,Sem.run_bind,Sem.run_pure,Result.andThen_ok,List.map_toArray,List.map_cons,List.map_nil,hs,hx,hrun]
 exact hK _ _ h
theorem run_store {base:Nat} (w:World) (ty:TypeId) (M m cm:Nat) (mem:List Int) (hown:w.ownsRow base 5 1 (.slice (some ⟨M,0,none⟩) m cm) m (ints .u8 mem)) (A:Option Addr) (k c:Nat) (b:List Int) (hb:Arg w .u8 A k c b) (hk:0 < k) (h63:m + k≤100000) (hbase:base≤w.heap.size) :
  ∃ M' cm' w',(Builtin.append_ #[146,22] ty #[.slice (some ⟨M,0,none⟩) m cm,.slice A k c]).run Try.prog w=.ok (.slice (some ⟨M',0,none⟩) (m + k) cm') w'∧w'.ownsRow base 5 1 (.slice (some ⟨M',0,none⟩) (m + k) cm') (m + k) (ints .u8 (mem ++ b)) ∧
   w.grownBy w' (some M)∧(M'=M∨(M'=w.heap.size∧w.grownBy w' none)):=by
 obtain ⟨i,hi,hz,hsize,hby⟩:=info_parts byte_info
 have hml:(100000:Nat)≤maxLen:=by decide
 rw [run_append_types Try.underlying146 Try.underlying22]
 obtain ⟨bA,oA,rfl,_,hc⟩:=hb.seq.at_ (by rw [ints_length,hb.len];exact hk)
 have hnews:∀ j u,(ints .u8 b)[j]?=some u→w.cell? ((⟨bA,oA,none⟩:Addr).add j)=some u:=fun j u hu=>by
  have e2:(⟨bA,oA,none⟩:Addr).add j=⟨bA,oA + j,none⟩:=by unfold Addr.add;split <;> simp_all
  rw [e2];exact hc j u hu
 have hl:(ints .u8 b).length=k * i.size:=by rw [hsize,ints_length,hb.len];omega
 have hlen:(ints .u8 (mem ++ b)).length=(m + k) * 1:=by rw [ints_length,List.length_append,hb.len];have:=hown.1;rw [ints_length] at this;omega
 have hml':(ints .u8 mem).length=m:=by have:=hown.1;omega
 rcases hown.2 with ⟨e,_⟩ | ⟨g,cap,cur,e,hbg,hg,hnc,hcm,hcs,htake⟩
 ·cases e
 ·cases e
  by_cases hroom:m + k≤cm
  ·have hfit:m * i.size + (ints .u8 b).length≤cur.size:=by rw [hl,hsize];omega
   have hr:=run_append_room (P:=Try.prog) w 22 ty 5 i Try.underlying22 hi M m cm cur hg ⟨bA,oA,none⟩ k c (ints .u8 b) hl hnews (ints_one _ _) hroom hfit
   refine ⟨M,cm,_,hr,⟨hlen,.inr ⟨M,cm,_,rfl,hbg,setRow_heap w M cur _ _ _ hg,hroom,hcm,?_,?_⟩⟩,⟨rfl,rfl,rfl,by simp,fun k' _ hk'=>setRow_other w M k' _ (fun e=>hk' (by simp [e]))⟩,.inl rfl⟩
   ·simp only [List.size_toArray,List.length_append,List.length_take,List.length_drop,Array.length_toList]
    rw [ints_length,hb.len,hsize]
    omega
   ·rw [hsize,htake,← hlen,ints_app]
    exact List.take_left
  ·have holds:∀ j u,(ints .u8 mem)[j]?=some u→w.cell? ((⟨M,0,none⟩:Addr).add j)=some u:=hown.cells (g:=M) rfl
   have hr:=run_append_grow (P:=Try.prog) w 22 ty 5 i _ Try.underlying22 hi hz ⟨M,0,none⟩ m cm (ints .u8 mem) (by rw [hsize,hml'];omega) holds ⟨bA,oA,none⟩ k c (ints .u8 b) hl hnews (by omega) (by omega) (growslice_fits (by omega) (by rw [hby];omega))
   have hge:=grownCap_ge w (m + k) cm 5
   have hgm:grownCap w (m + k) cm 5≤maxLen:=grownCap_le_maxLen w (m + k) cm 5 (by omega)
   refine ⟨w.heap.size,_,_,hr,⟨hlen,.inr ⟨w.heap.size,_,_,rfl,hbase,heap_alloc_new w.drew _,hge,hgm,?_,?_⟩⟩,⟨rfl,rfl,rfl,by simp,fun k hk _=>heap_alloc_old w.drew _ hk⟩,.inr ⟨rfl,⟨rfl,rfl,rfl,by simp,fun k hk _=>heap_alloc_old w.drew _ hk⟩⟩⟩
   ·simp only [Array.size_append,List.size_toArray,size_zeroCells]
    rw [hml',ints_length,hb.len]
    simp [Value.cells]
    omega
   ·simp only [Array.toList_append,List.append_assoc]
    rw [← List.append_assoc,← hlen,ints_app]
    exact List.take_left
def TxtIn (w:World) (base M m:Nat) (A:Option Addr) (n c:Nat) (zs:List Int):Prop :=
 OwnTxt w base A n c zs∧∀ g o,A=some ⟨g,o,none⟩→0 < n→g=M→o + n≤m
theorem TxtIn.stay {w w':World} {base M m cm M' cm' k:Nat} {mem b:List Int} {A:Option Addr} {n c:Nat} {zs:List Int} (h:TxtIn w base M m A n c zs) (hown:w.ownsRow base 5 1 (.slice (some ⟨M,0,none⟩) m cm) m (ints .u8 mem))
  (hown':w'.ownsRow base 5 1 (.slice (some ⟨M',0,none⟩) (m + k) cm') (m + k) (ints .u8 (mem ++ b))) (hg:w.grownBy w' (some M)) (hM:M'=M∨(M'=w.heap.size∧w.grownBy w' none)):TxtIn w' base M' (m + k) A n c zs:=by
 obtain ⟨ht,hin⟩:=h
 rcases Nat.eq_zero_or_pos n with h0 | hn
 ·obtain ⟨h1,h2,h3,_⟩:=ht
  exact ⟨⟨h1,h2,h3,.inl h0⟩,fun g o _ hn=>by omega⟩
 ·rcases hM with rfl | ⟨rfl,hg2⟩
  ·refine ⟨?_,fun g o e hn he=>by have:=hin g o e hn he;omega⟩
   obtain ⟨h1,h2,h3,h0 | ⟨g,o,cs,rfl,hb,hgc,hc⟩⟩:=ht
   ·omega
   ·refine ⟨h1,h2,h3,.inr ?_⟩
    by_cases e:g=M'
    ·subst e
     have hon:=hin g o rfl hn rfl
     rcases hown.2 with ⟨e,_⟩ | ⟨g1,cap1,cur1,e,_,hg1,_,_,_,ht1⟩ <;> cases e
     rcases hown'.2 with ⟨e,_⟩ | ⟨g2,cap2,cur2,e,_,hg2,_,_,_,ht2⟩ <;> cases e
     rw [hgc] at hg1
     simp at hg1
     subst hg1
     refine ⟨g,o,cur2,rfl,hb,hg2,fun j hj=>?_⟩
     have hml:(ints .u8 mem).length=m:=by have:=hown.1;omega
     have e1:(ints .u8 mem)[o + j]?=some (.int .u8 (zs.getD j 0)):=by
      rw [← ht1,List.getElem?_take,if_pos (by omega)]
      simpa using hc j hj
     have e2:(ints .u8 (mem ++ b))[o + j]?=some (.int .u8 (zs.getD j 0)):=by
      rw [ints_app,List.getElem?_append_left (by omega)]
      exact e1
     rw [← ht2,List.getElem?_take,if_pos (by omega)] at e2
     simpa using e2
    ·exact ⟨g,o,cs,rfl,hb,(hg.block g (Array.getElem?_eq_some_iff.1 hgc).1 (fun e2=>e (by injection e2))).trans hgc,hc⟩
  ·have hlt:∀ g o,A=some ⟨g,o,none⟩→g < w.heap.size:=fun g o e=>by
    obtain ⟨g',o',e',_,hu,_⟩:=ht.at_ hn
    rw [e] at e'
    cases e'
    exact hu.lt
   exact ⟨ht.below (below_of_grown hg2),fun g o e _ he=>absurd (hlt g o e) (by omega)⟩
theorem TxtIn.keep {w w':World} {base M m:Nat} {A:Option Addr} {n c:Nat} {zs:List Int} (h:TxtIn w base M m A n c zs) (hk:∀ g,base≤g→U8 w g→w'.heap[g]?=w.heap[g]?):TxtIn w' base M m A n c zs:=⟨h.1.keep hk,h.2⟩
structure Kept (w:World) (base Bm M m:Nat) (mem:List Int) (k:Nat) (b:List Int) (A2:Option Addr) (M' cm':Nat) (w':World):Prop where
 box:Blk w' Bm 146 [.slice (some ⟨M',0,none⟩) (m + k) cm']
 own:w'.ownsRow base 5 1 (.slice (some ⟨M',0,none⟩) (m + k) cm') (m + k) (ints .u8 (mem ++ b))
 txt:TxtIn w' base M' (m + k) A2 k k b
 stay:∀ A n c zs,TxtIn w base M m A n c zs→TxtIn w' base M' (m + k) A n c zs
 below:Below base w w'
 same:∀ g,g < w.heap.size→g≠Bm→g≠M→w'.heap[g]?=w.heap[g]?
theorem keep_any (base Bm M m cm:Nat) (mem:List Int) (A:Option Addr) (k c:Nat) (b:List Int) (w:World) (hx:Blk w Bm 146 [.slice (some ⟨M,0,none⟩) m cm]) (hown:w.ownsRow base 5 1 (.slice (some ⟨M,0,none⟩) m cm) m (ints .u8 mem)) (hb:Arg w .u8 A k c b)
  (hB:base≤Bm) (h63:m + k≤100000) :
  Calls Try.prog 93 #[.pointer (some ⟨Bm,0,none⟩),.slice A k c] w fun e w'=>∃ A2 M' cm',e=.returned (.slice A2 k k)∧Kept w base Bm M m mem k b A2 M' cm' w':=by
 have q0:=hx.cell 0
 have f0:=hx.free 0
 simp only [gcZ] at q0
 have hbase:base≤w.heap.size:=Nat.le_trans hB (Nat.le_of_lt hx.lt)
 rcases Nat.eq_zero_or_pos k with h0 | hk
 ·subst h0
  have hb0:b=[]:=List.eq_nil_of_length_eq_zero hb.len
  subst hb0
  have RES:Kept w base Bm M m mem 0 [] none M cm w :=
   ⟨hx,by rw [List.append_nil];exact hown,⟨OwnTxt.nil _ _,fun g o e _ _=>by cases e⟩,fun A n c zs h=>h,Below.refl _ _,fun _ _ _ _=>rfl⟩
  have RES:=Lh RES
  clear hx hown hb q0 f0
  go_enter Try.func93,Try.ntmps93
  go_wp2
  go_ret
  exact ⟨none,M,cm,rfl,RES.out⟩
 ·obtain ⟨M',cm',w1,hrun,hown1,hg,hM⟩:=run_store w 146 M m cm mem hown A k c b hb hk h63 hbase
  have hMB:M≠Bm:=fun e=>by
   subst e
   exact u8_blk (by decide) (U8.of_owns hown) hx
  have hx1:Blk w1 Bm 146 [.slice (some ⟨M,0,none⟩) m cm]:=hx.grown hg (by simp;omega)
  have q1:=hx1.cell 0
  have f1:=hx1.free 0
  simp only [gcZ] at q1
  obtain ⟨w2,hw2⟩:∃ w2,w2=w1.setCell ⟨Bm,0,none⟩ (.slice (some ⟨M',0,none⟩) (m + k) cm'):=⟨_,rfl⟩
  have hx2:Blk w2 Bm 146 [.slice (some ⟨M',0,none⟩) (m + k) cm']:=by rw [hw2];exact hx1.set 0 _
  have q2:=hx2.cell 0
  simp only [gcZ] at q2
  have hsame:∀ g,g≠Bm→w2.heap[g]?=w1.heap[g]?:=fun g hne=>by rw [hw2];exact Below.heap_setCell w1 _ _ g hne
  have hu8:∀ g,U8 w1 g→w2.heap[g]?=w1.heap[g]?:=fun g hu=>hsame g (fun e=>by subst e;exact u8_blk (by decide) hu hx1)
  have hown2:w2.ownsRow base 5 1 (.slice (some ⟨M',0,none⟩) (m + k) cm') (m + k) (ints .u8 (mem ++ b)):=owns_keep hown1 fun g cs _ hc=>hu8 g ⟨cs,hc⟩
  have hcm:=(Arg.own hown2).max
  have hcc:=(Arg.own hown2).cap
  have RES:Kept w base Bm M m mem k b (some ⟨M',m,none⟩) M' cm' w2:=by
   refine ⟨hx2,hown2,⟨?_,fun g o e _ _=>by cases e;exact Nat.le_refl _⟩,fun A n c zs h=>(h.stay hown hown1 hg hM).keep fun g _ hu=>hu8 g hu,?_,fun g hlt h1 h2=>(hsame g h1).trans (hg.block g hlt (fun e=>h2 (by injection e)))⟩
   ·refine ⟨hb.len,Nat.le_refl _,Nat.le_trans hb.cap hb.max,.inr ?_⟩
    rcases hown2.2 with ⟨e,_⟩ | ⟨g1,cap1,cur1,e,hb1,hg1,_,_,_,ht1⟩ <;> cases e
    refine ⟨M',m,cur1,rfl,hb1,hg1,fun j hj=>?_⟩
    have hml:(ints .u8 mem).length=m:=by have:=hown.1;omega
    have e2:(ints .u8 (mem ++ b))[m + j]?=some (.int .u8 (b.getD j 0)):=by
     rw [ints_app,List.getElem?_append_right (by omega),hml,show m + j - m=j by omega]
     exact ints_getD .u8 b j (by rw [hb.len];exact hj)
    rw [← ht1,List.getElem?_take,if_pos (by omega)] at e2
    simpa using e2
   ·rw [hw2]
    exact (((Below.refl base w).grown hg hbase (fun g e=>by cases e;exact (hown.lt M rfl).1)).setCell (p:=⟨Bm,0,none⟩) hB _)
  have RES:=Lh RES
  have hml:(100000:Nat)≤maxLen:=by decide
  unfold maxLen at hcm
  have hk0:((k:Int) == 0)=false:=beq_eq_false_iff_ne.2 (by omega)
  have hk1:¬ (k:Int)=0:=by omega
  have hk2:¬ k=0:=by omega
  clear hx hown hb hg hM hown1 hown2 hx1 hx2 hsame hu8
  go_enter Try.func93,Try.ntmps93
  have HRUN:=Lh hrun
  clear hrun
  go_wp2_with (at_builtin;refine wpList_app_eq rfl (.tmp 17) (.tmp 18) 146 22 rfl rfl rfl HRUN.out ?_)
  rw [show m + k - m=k by omega,← hw2]
  go_ret
  exact ⟨_,M',cm',rfl,RES.out⟩
end Go.Proofs.Ytdbeiikaeccbhaa
namespace Go.Proofs.Ytdbeiikaeccbhaa
theorem SmallD.sec_len {S:List Sec} {C:List Pnd} (h:SmallD S C) (k:Nat):(S.getD k (false,[])).2.length≤100:=by
 rcases Nat.lt_or_ge k S.length with hk | hk
 ·rw [gtD,geE hk,Option.getD_some]
  exact h.long _ (List.getElem_mem hk)
 ·rw [gtD,List.getElem?_eq_none hk]
  simp
theorem SmallD.pnd_len {S:List Sec} {C:List Pnd} (h:SmallD S C) (k:Nat):(C.getD k (0,[])).2.length≤100:=by
 rcases Nat.lt_or_ge k C.length with hk | hk
 ·rw [gtD,geE hk,Option.getD_some]
  exact h.wide _ (List.getElem_mem hk)
 ·rw [gtD,List.getElem?_eq_none hk]
  simp
end Go.Proofs.Ytdbeiikaeccbhaa
