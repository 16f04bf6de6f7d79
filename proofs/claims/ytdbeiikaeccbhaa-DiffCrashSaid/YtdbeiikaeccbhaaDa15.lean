/- Texts of the layers below, joined. -/
import Derived.Test.YtdbeiikaeccbhaaDa10
set_option maxRecDepth 100000
set_option maxHeartbeats 12800000
set_option linter.unusedVariables false
namespace Go.Proofs.Ytdbeiikaeccbhaa
open Go.RowKit
theorem OwnSecs.row {w:World} {base:Nat} {A:Option Addr} {n c:Nat} {ss:List Sec} (h:OwnSecs w base A n c ss) {i:Nat} (hi:i < n) :
  ∃ gA Ai ni ci,A=some ⟨gA,0,none⟩∧base≤gA∧w.cell? ⟨gA,i * 2,none⟩=some (.slice Ai ni ci)∧w.cell? ⟨gA,i * 2 + 1,none⟩=some (.bool (ss.getD i (false,[])).1)∧w.frozen? ⟨gA,i * 2 + 1,none⟩=false∧OwnTxt w base Ai ni ci (ss.getD i (false,[])).2∧(ss.getD i (false,[])).2.length=ni∧ni≤ci∧ci≤maxLen:=by
 obtain ⟨vs,hown,hl,hby,hin⟩:=h
 obtain ⟨Ai,ni,ci,hv,hx,ho⟩:=hin i hi
 obtain ⟨g,u,e,hbg,_⟩:=owns_at2 hown (show i * 2 < n * 2 by omega)
 obtain ⟨b,e',hlt,hc⟩:=owns_cell hown hv
 obtain ⟨b',e'',_,hcx⟩:=owns_cell hown hx
 rw [e] at e' e''
 cases e'
 cases e''
 have hni:(ss.getD i (false,[])).2.length=ni:=ho.1
 have harg:=ho.arg
 subst e
 exact ⟨g,Ai,ni,ci,rfl,hbg,hc,hcx,hown.frozenAt _,ho,hni,harg.cap,harg.max⟩
theorem OwnPnds.row {w:World} {base:Nat} {A:Option Addr} {n c:Nat} {ss:List Pnd} (h:OwnPnds w base A n c ss) {i:Nat} (hi:i < n) :
  ∃ gA Ai ni ci,A=some ⟨gA,0,none⟩∧base≤gA∧w.cell? ⟨gA,i * 2 + 1,none⟩=some (.slice Ai ni ci)∧w.cell? ⟨gA,i * 2,none⟩=some (.int .i64 (ss.getD i (0,[])).1)∧w.frozen? ⟨gA,i * 2,none⟩=false∧OwnTxt w base Ai ni ci (ss.getD i (0,[])).2∧(ss.getD i (0,[])).2.length=ni∧ni≤ci∧ci≤maxLen:=by
 obtain ⟨vs,hown,hl,hby,hin⟩:=h
 obtain ⟨Ai,ni,ci,hv,hx,ho⟩:=hin i hi
 obtain ⟨g,u,e,hbg,_⟩:=owns_at2 hown (show i * 2 < n * 2 by omega)
 obtain ⟨b,e',hlt,hc⟩:=owns_cell hown hv
 obtain ⟨b',e'',_,hcx⟩:=owns_cell hown hx
 rw [e] at e' e''
 cases e'
 cases e''
 have hni:(ss.getD i (0,[])).2.length=ni:=ho.1
 have harg:=ho.arg
 subst e
 exact ⟨g,Ai,ni,ci,rfl,hbg,hc,hcx,hown.frozenAt _,ho,hni,harg.cap,harg.max⟩
theorem SmallD.sec_at {S:List Sec} {C:List Pnd} (h:SmallD S C) (k:Nat):(S.getD k (false,[])).2.length≤100:=by
 rcases Nat.lt_or_ge k S.length with hk | hk
 ·rw [gtD,geE hk,Option.getD_some]
  exact h.long _ (List.getElem_mem hk)
 ·rw [gtD,List.getElem?_eq_none hk]
  simp
theorem SmallD.pnd_at {S:List Sec} {C:List Pnd} (h:SmallD S C) (k:Nat):(C.getD k (0,[])).2.length≤100:=by
 rcases Nat.lt_or_ge k C.length with hk | hk
 ·rw [gtD,geE hk,Option.getD_some]
  exact h.wide _ (List.getElem_mem hk)
 ·rw [gtD,List.getElem?_eq_none hk]
  simp
structure DskDoes:Prop where
 check:∀ (A:Option Addr) (n c:Nat) (A':Option Addr) (n' c':Nat) (S:List Sec) (C:List Pnd) (w:World),Dsk w A n c A' n' c' S C→SmallD S C→Calls Try.prog 40 #[diskV A n c A' n' c'] w fun e w'=>e=.returned (.int .i64 (chkD S C))∧Below w.heap.size w w'
 write:∀ (A:Option Addr) (n c:Nat) (A':Option Addr) (n' c':Nat) (S:List Sec) (C:List Pnd) (at_:Int) (Ab:Option Addr) (nb cb:Nat) (b:Txt) (w:World),Dsk w A n c A' n' c' S C→SmallD S C→Arg w .u8 Ab nb cb b→(∀ z ∈ b,isByte z)→b.length≤100 →
  Calls Try.prog 39 #[diskV A n c A' n' c',.int .i64 at_,.slice Ab nb cb] w (DiskOut w (wrS S C at_ b) (wrC S C at_ b) (wrE S C at_ b))
 read:∀ (A:Option Addr) (n c:Nat) (A':Option Addr) (n' c':Nat) (S:List Sec) (C:List Pnd) (at_:Int) (w:World),Dsk w A n c A' n' c' S C→SmallD S C→Calls Try.prog 65 #[diskV A n c A' n' c',.int .i64 at_] w (BytesOut w (rdB S C at_) (rdE S C at_))
 flush:∀ (A:Option Addr) (n c:Nat) (A':Option Addr) (n' c':Nat) (S:List Sec) (C:List Pnd) (w:World),Dsk w A n c A' n' c' S C→SmallD S C→Calls Try.prog 38 #[diskV A n c A' n' c'] w (DiskOut w (flS S C) [] (chkD S C))
 crash:∀ (A:Option Addr) (n c:Nat) (A':Option Addr) (n' c':Nat) (S:List Sec) (C:List Pnd) (Af:Option Addr) (nf cf:Nat) (F:List Int) (w:World),Dsk w A n c A' n' c' S C→SmallD S C→Arg w .u8 Af nf cf F→(∀ z ∈ F,isByte z)→F.length≤200 →
  Calls Try.prog 20 #[diskV A n c A' n' c',.slice Af nf cf] w (DiskOut w (crS S C F) [] (chkD S C))
 twin:∀ (A:Option Addr) (n c:Nat) (A':Option Addr) (n' c':Nat) (S:List Sec) (C:List Pnd) (w:World),Dsk w A n c A' n' c' S C→SmallD S C→Calls Try.prog 69 #[diskV A n c A' n' c'] w fun e w'=>∃ B d B' d',e=.returned (diskV B n d B' n' d')∧OwnDsk w' w.heap.size B n d B' n' d' S C∧Below w.heap.size w w'
structure DBox (w:World) (G:Nat) (A:Option Addr) (n c:Nat) (A':Option Addr) (n' c':Nat) (S:List Sec) (C:List Pnd):Prop where
 blk:Blk w G 56 [.slice A n c,.slice A' n' c']
 dsk:Dsk w A n c A' n' c' S C
section
variable {w w':World} {G:Nat} {A A':Option Addr} {n c n' c':Nat} {S:List Sec} {C:List Pnd}
theorem DBox.below (x:DBox w G A n c A' n' c' S C) (hb:Below w.heap.size w w'):DBox w' G A n c A' n' c' S C:=⟨x.blk.below hb x.blk.lt,x.dsk.below hb⟩
theorem DBox.new (t:Dsk w A n c A' n' c' S C):DBox (w.alloc (.cells #[.slice A n c,.slice A' n' c'] 56)) w.heap.size A n c A' n' c' S C :=
 ⟨Blk.new w 56 [.slice A n c,.slice A' n' c'],t.below ((Below.refl _ _).alloc (Nat.le_refl _) _)⟩
theorem DBox.cells (x:DBox w G A n c A' n' c' S C):w.cell? ⟨G,0,none⟩=some (.slice A n c)∧w.cell? ⟨G,1,none⟩=some (.slice A' n' c'):=⟨x.blk.cell 0,x.blk.cell 1⟩
end
theorem str_arg {w:World} {A:Option Addr} {n c:Nat} {zs:List Int} (h:Arg w .u8 A n c zs):(convert 22 9 (.slice A n c)).run Try.prog w=.ok (.string (strOfNums zs)) w :=
 run_str (P:=Try.prog) w 22 9 5 Try.underlying22 Try.underlying5 Try.underlying9 (c:=c) h.seq h.len
theorem fate_small {S:List Sec} (hs:∀ s ∈ S,s.2.length≤100) {p:Pnd} (hp:p.2.length≤100) (f:Int):∀ s ∈ byFate S p f,s.2.length≤100:=by
 intro s h
 unfold byFate at h
 split at h
 ·rcases List.mem_or_eq_of_mem_set h with h | rfl
  ·exact hs s h
  ·exact hp
 ·split at h
  ·rcases List.mem_or_eq_of_mem_set h with h | rfl
   ·exact hs s h
   ·simp [noughts]
  ·exact hs s h
theorem behind_small {S:List Sec} {C:List Pnd} (hs:SmallD S C) (F:List Int):SmallD (behindS S C F) []:=by
 have h:∀ k,∀ s ∈ behindK S C F k,s.2.length≤100:=fun k=>by
  induction k with
  | zero=>exact hs.long
  | succ k ih=>exact fate_small ih (hs.pnd_at k) _
 exact ⟨by unfold behindS;rw [behindK_len];exact hs.secs,by simp,h _,by simp⟩
theorem cr_small {S:List Sec} {C:List Pnd} (hs:SmallD S C) (F:List Int):SmallD (crS S C F) []:=by
 unfold crS
 split
 ·exact behind_small hs F
 ·exact SmallD.nil
theorem lastW_app (C:List Pnd) (p:Pnd) (at_:Int):lastW (C ++ [p]) at_=if p.1=at_ then some p.2 else lastW C at_:=by
 unfold lastW
 rw [List.reverse_append]
 by_cases h:p.1=at_
 ·simp [h]
 ·simp [h]
theorem set_sec (S:List Sec) (k u:Nat) (x:Sec) (hk:k < S.length):(S.set k x).getD u (false,[])=if u=k then x else S.getD u (false,[]):=by
 rw [gtD,List.getElem?_set,gtD]
 by_cases h:k=u
 ·subst h;simp [hk]
 ·rw [if_neg h,if_neg (fun e=>h e.symm)]
theorem secAt_set (S:List Sec) (a:Int) (x:Sec) (at_:Int) (h0:0≤a) (h1:a < (S.length:Int)) (h2:0≤at_):secAt (S.set a.toNat x) at_=if a=at_ then x else secAt S at_:=by
 unfold secAt
 rw [set_sec S _ _ _ (by omega)]
 by_cases h:a=at_
 ·subst h;rw [if_pos rfl,if_pos rfl]
 ·rw [if_neg (by omega),if_neg h]
theorem fate_at (S:List Sec) (p:Pnd) (f at_:Int) (h0:0≤p.1) (h1:p.1 < (S.length:Int)) (h2:0≤at_):secAt (byFate S p f) at_=if p.1=at_ then (if f % 3=1 then (false,p.2) else if f % 3=2 then (true,noughts) else secAt S at_) else secAt S at_:=by
 unfold byFate
 by_cases e1:f % 3=1
 ·rw [if_pos e1,if_pos e1,secAt_set S p.1 _ at_ h0 h1 h2]
 ·rw [if_neg e1,if_neg e1]
  by_cases e2:f % 3=2
  ·rw [if_pos e2,if_pos e2,secAt_set S p.1 _ at_ h0 h1 h2]
  ·rw [if_neg e2,if_neg e2]
   split <;> rfl
theorem may_pnd {S:List Sec} {C:List Pnd} (h:mayD S C=true) {k:Nat} (hk:k < C.length):0≤(C.getD k (0,[])).1∧(C.getD k (0,[])).1 < (S.length:Int)∧(C.getD k (0,[])).2.length=32:=by
 have:=((mayD_iff S C).1 h).2.2 (C.getD k (0,[])) (by rw [gtD,geE hk,Option.getD_some];exact List.getElem_mem hk)
 exact this
theorem take_last (C:List Pnd) {k:Nat} (hk:k < C.length):C.take (k + 1)=C.take k ++ [C.getD k (0,[])]:=by
 rw [gtD,geE hk,Option.getD_some,List.take_add_one,geE hk]
 rfl
theorem flush_at {S:List Sec} {C:List Pnd} (h:mayD S C=true) {at_:Int} (h2:0≤at_):∀ k,k≤C.length→secAt (behindK S C (List.replicate C.length 1) k) at_=((lastW (C.take k) at_).map fun b=>((false,b):Sec)).getD (secAt S at_):=fun k=>by
 induction k with
 | zero=>intro _;rfl
 | succ k ih =>
  intro hk
  have hp:=may_pnd h (show k < C.length by omega)
  show secAt (byFate (behindK S C (List.replicate C.length 1) k) (C.getD k (0,[])) ((List.replicate C.length (1:Int)).getD k 0)) at_=_
  have h1:(List.replicate C.length (1:Int)).getD k 0=1:=by
   rw [gtD,List.getElem?_replicate,if_pos (by omega),Option.getD_some]
  rw [h1,fate_at _ _ _ _ hp.1 (by rw [behindK_len];exact hp.2.1) h2,take_last C (by omega),lastW_app,ih (by omega)]
  by_cases e:(C.getD k (0,[])).1=at_
  ·rw [if_pos e,if_pos e,if_pos (by decide)]
   rfl
  ·rw [if_neg e,if_neg e]
theorem crash_at {S:List Sec} {C:List Pnd} (h:mayD S C=true) (F:List Int) {at_:Int} (h2:0≤at_):∀ k,k≤C.length→secAt (behindK S C F k) at_=secAt S at_∨((secAt (behindK S C F k) at_).1=true∧pendB C at_=true)∨∃ j,j < C.length∧(C.getD j (0,[])).1=at_∧secAt (behindK S C F k) at_=(false,(C.getD j (0,[])).2):=fun k=>by
 induction k with
 | zero=>intro _;exact .inl rfl
 | succ k ih =>
  intro hk
  have hp:=may_pnd h (show k < C.length by omega)
  show secAt (byFate (behindK S C F k) (C.getD k (0,[])) (F.getD k 0)) at_=_∨((secAt (byFate (behindK S C F k) (C.getD k (0,[])) (F.getD k 0)) at_).1=true∧_)∨∃ j,_∧_∧secAt (byFate (behindK S C F k) (C.getD k (0,[])) (F.getD k 0)) at_=_
  rw [fate_at _ _ _ _ hp.1 (by rw [behindK_len];exact hp.2.1) h2]
  by_cases e:(C.getD k (0,[])).1=at_
  ·rw [if_pos e]
   by_cases e1:F.getD k 0 % 3=1
   ·rw [if_pos e1]
    exact .inr (.inr ⟨k,by omega,e,rfl⟩)
   ·rw [if_neg e1]
    by_cases e2:F.getD k 0 % 3=2
    ·rw [if_pos e2]
     exact .inr (.inl ⟨rfl,pend_hit (show k < C.length by omega) e⟩)
    ·rw [if_neg e2]
     exact ih (by omega)
  ·rw [if_neg e]
   exact ih (by omega)
theorem fate_ok {S:List Sec} (hs:∀ s ∈ S,s.2.length=32∧(s.1=true→∀ z ∈ s.2,z=0)) {p:Pnd} (hp:p.2.length=32) (f:Int):∀ s ∈ byFate S p f,s.2.length=32∧(s.1=true→∀ z ∈ s.2,z=0):=by
 intro s h
 unfold byFate at h
 split at h
 ·rcases List.mem_or_eq_of_mem_set h with h | rfl
  ·exact hs s h
  ·exact ⟨hp,fun e=>by cases e⟩
 ·split at h
  ·rcases List.mem_or_eq_of_mem_set h with h | rfl
   ·exact hs s h
   ·exact ⟨by simp [noughts],fun _ z hz=>(List.mem_replicate.1 hz).2⟩
  ·exact hs s h
theorem behind_may {S:List Sec} {C:List Pnd} (h:mayD S C=true) (F:List Int):mayD (behindS S C F) []=true:=by
 obtain ⟨⟨h1,h2,h3⟩,h4,h5⟩:=(mayD_iff S C).1 h
 rw [mayD_iff]
 refine ⟨⟨by unfold behindS;rw [behindK_len];exact h1,by unfold behindS;rw [behindK_len];exact h2,by simp⟩,?_,by simp⟩
 have hk:∀ k,k≤C.length→∀ s ∈ behindK S C F k,s.2.length=32∧(s.1=true→∀ z ∈ s.2,z=0):=fun k=>by
  induction k with
  | zero=>intro _;exact h4
  | succ k ih=>intro hk;exact fate_ok (ih (by omega)) (may_pnd h (show k < C.length by omega)).2.2 _
 exact hk _ (Nat.min_le_left _ _)
theorem cr_may {S:List Sec} {C:List Pnd} (h:mayD S C=true) (F:List Int):mayD (crS S C F) []=true∧(crS S C F).length=S.length:=by
 unfold crS
 rw [if_pos h]
 exact ⟨behind_may h F,by unfold behindS;rw [behindK_len]⟩
theorem cr_none {S:List Sec} (h:mayD S []=true) (F:List Int):crS S [] F=S:=by
 unfold crS
 rw [if_pos h]
 unfold behindS
 simp [behindK]
theorem ask_may {S:List Sec} {C:List Pnd} (h:mayD S C=true) (at_:Int):askE S C at_=if at_ < 0∨(S.length:Int)≤at_ then 2 else 0:=by
 unfold askE;rw [if_pos h]
theorem rd_like {S S':List Sec} {C C':List Pnd} (h:mayD S C=true) (h':mayD S' C'=true) (hl:S'.length=S.length) {at_:Int} (hg:0≤at_→at_ < (S.length:Int)→gotB S' C' at_=gotB S C at_∧gotOk S' C' at_=gotOk S C at_):rdE S' C' at_=rdE S C at_∧rdB S' C' at_=rdB S C at_:=by
 have ha:askE S' C' at_=askE S C at_:=by rw [ask_may h,ask_may h',hl]
 have he:rdE S' C' at_=rdE S C at_:=by
  unfold rdE
  rw [ha]
  by_cases h0:askE S C at_=0
  ·rw [if_pos h0,if_pos h0]
   have hb:=h0
   rw [ask_may h] at hb
   by_cases e:at_ < 0∨(S.length:Int)≤at_
   ·rw [if_pos e] at hb;cases hb
   ·rw [(hg (by omega) (by omega)).2]
  ·rw [if_neg h0,if_neg h0]
 refine ⟨he,?_⟩
 unfold rdB
 rw [he]
 by_cases h0:rdE S C at_=0
 ·rw [if_pos h0,if_pos h0]
  have hb:¬ (at_ < 0∨(S.length:Int)≤at_):=fun e=>by
   unfold rdE at h0
   rw [ask_may h,if_pos e] at h0
   simp at h0
  exact (hg (by omega) (by omega)).1
 ·rw [if_neg h0,if_neg h0]
theorem rd_flush {S:List Sec} {C:List Pnd} (h:mayD S C=true) (at_:Int):rdE (flS S C) [] at_=rdE S C at_∧rdB (flS S C) [] at_=rdB S C at_:=by
 obtain ⟨hm,hl⟩:=cr_may h (List.replicate C.length 1)
 refine rd_like h hm hl fun h0 h1=>?_
 have hf:=flush_at h h0 C.length (Nat.le_refl _)
 rw [List.take_length] at hf
 have hs:secAt (flS S C) at_=((lastW C at_).map fun b=>((false,b):Sec)).getD (secAt S at_):=by
  unfold flS crS
  rw [if_pos h]
  unfold behindS
  rw [List.length_replicate,Nat.min_self]
  exact hf
 show gotB (flS S C) [] at_=_∧gotOk (flS S C) [] at_=_
 unfold gotB gotOk
 rw [hs]
 cases lastW C at_ with
 | none=>exact ⟨rfl,rfl⟩
 | some x=>exact ⟨rfl,rfl⟩
end Go.Proofs.Ytdbeiikaeccbhaa
namespace Go.Proofs.Ytdbeiikaeccbhaa
abbrev Ac:=Int × Int × Txt
def wrA (l:List Pnd):List Ac:=l.map fun p=>(1,p.1,p.2)
def actsA (l:List Pnd):List Ac:=wrA l ++ [(2,0,[])]
def dnA:List Ac→Nat→List Sec→List Pnd→Option (List Sec × List Pnd)
 | _,0,S,C=>some (S,C)
 | [],_ + 1,S,C=>some (S,C)
 | a :: l,k + 1,S,C=>if a.1=1 then (if wrE S C a.2.1 a.2.2=0 then dnA l k S (C ++ [(a.2.1,a.2.2)]) else none) else if a.1=2 then (if mayD S C=true then dnA l k (flS S C) [] else none) else none
theorem dnA_nil (k:Nat) (S:List Sec) (C:List Pnd):dnA [] k S C=some (S,C):=by cases k <;> rfl
theorem wr_zero {S:List Sec} {C L:List Pnd} {p:Pnd} (h:mayD S (C ++ p :: L)=true):wrE S C p.1 p.2=0:=by
 have h':=(mayD_iff _ _).1 h
 obtain ⟨⟨h1,h2,h3⟩,h4,h5⟩:=h'
 have hC:mayD S C=true:=(mayD_iff _ _).2 ⟨⟨h1,h2,by rw [List.length_append,List.length_cons] at h3;omega⟩,h4,fun q hq=>h5 q (List.mem_append_left _ hq)⟩
 obtain ⟨q1,q2,q3⟩:=h5 p (List.mem_append_right _ (List.mem_cons_self ..))
 have ha:askE S C p.1=0:=by
  unfold askE
  rw [if_pos hC,if_neg (by omega)]
 rw [List.length_append,List.length_cons] at h3
 unfold wrE
 rw [if_pos ha,if_pos q3,if_neg (by omega)]
theorem dnA_writes:∀ (L:List Pnd) (r:List Ac) (S:List Sec) (C:List Pnd),mayD S (C ++ L)=true→∀ k,dnA (wrA L ++ r) k S C=if k≤L.length then some (S,C ++ L.take k) else dnA r (k - L.length) S (C ++ L):=by
 intro L
 induction L with
 | nil =>
  intro r S C h k
  show dnA r k S C=_
  cases k with
  | zero=>rw [if_pos (Nat.zero_le _)];simp [dnA]
  | succ k=>rw [if_neg (by simp),List.append_nil];rfl
 | cons p L ih =>
  intro r S C h k
  cases k with
  | zero=>rw [if_pos (Nat.zero_le _)];simp [dnA]
  | succ k =>
   have e:dnA (wrA (p :: L) ++ r) (k + 1) S C=if wrE S C p.1 p.2=0 then dnA (wrA L ++ r) k S (C ++ [(p.1,p.2)]) else none:=rfl
   rw [e,if_pos (wr_zero h),ih r S (C ++ [(p.1,p.2)]) (by rw [List.append_assoc];exact h) k]
   by_cases hk:k≤L.length
   ·rw [if_pos hk,if_pos (by simpa using hk),List.append_assoc];rfl
   ·rw [if_neg hk,if_neg (by simpa using hk),List.append_assoc]
    simp
theorem dnA_acts {L:List Pnd} (r:List Ac) {S:List Sec} (h:mayD S L=true) (k:Nat):dnA (actsA L ++ r) k S []=if k≤L.length then some (S,L.take k) else dnA r (k - (L.length + 1)) (flS S L) []:=by
 unfold actsA
 rw [List.append_assoc,dnA_writes L ([(2,0,[])] ++ r) S [] h k]
 by_cases hk:k≤L.length
 ·rw [if_pos hk,if_pos hk];rfl
 ·rw [if_neg hk,if_neg hk]
  obtain ⟨j,hj⟩:∃ j,k - L.length=j + 1:=⟨k - L.length - 1,by omega⟩
  rw [hj,show k - (L.length + 1)=j by omega]
  show (if (2:Int)=1 then _ else if (2:Int)=2 then (if mayD S L=true then dnA r j (flS S L) [] else none) else none)=_
  rw [if_neg (by decide),if_pos rfl,if_pos h]
theorem actsA_length (L:List Pnd):(actsA L).length=L.length + 1:=by simp [actsA,wrA]
theorem may_sub {S:List Sec} {L:List Pnd} (h:mayD S L=true) (k:Nat):mayD S (L.take k)=true:=by
 obtain ⟨⟨h1,h2,h3⟩,h4,h5⟩:=(mayD_iff _ _).1 h
 exact (mayD_iff _ _).2 ⟨⟨h1,h2,by rw [List.length_take];omega⟩,h4,fun q hq=>h5 q (List.mem_of_mem_take hq)⟩
end Go.Proofs.Ytdbeiikaeccbhaa
