/- Texts of the layers below, joined. -/
import Derived.Test.YtdbeiikaeccbhaaDa15
import Derived.Maps.AppendAt
import Derived.Deep.Slices
set_option maxRecDepth 100000
set_option maxHeartbeats 12800000
set_option linter.unusedVariables false
namespace Go.Proofs.Ytdbeiikaeccbhaa
open Go.RowKit Go.OpenShut Go.ChangeShapes Go.WideShapes Go.Deep Go.Joins
abbrev actV (k x:Int) (A:Option Addr) (n c:Nat):Value:=.agg #[.int .u8 k,.int .i64 x,.slice A n c,.int .u32 0,.int .u32 0,.int .u8 0,.int .i64 0,.bool false,.int .i64 0,.int .u32 0,.int .u32 0,.int .i64 0,.int .u8 0,.int .i64 0,.bool false,.bool false,.int .u8 0,.int .u32 0,.int .u32 0,.int .i64 0,.int .u32 0,.int .i64 0,.slice none 0 0,.slice none 0 0,.int .i64 0,.int .i64 0,.int .u8 0,.slice none 0 0,.int .i64 0]
abbrev actL (k x:Int) (A:Option Addr) (n c:Nat):List Value:=[.int .u8 k,.int .i64 x,.slice A n c,.int .u32 0,.int .u32 0,.int .u8 0,.int .i64 0,.bool false,.int .i64 0,.int .u32 0,.int .u32 0,.int .i64 0,.int .u8 0,.int .i64 0,.bool false,.bool false,.int .u8 0,.int .u32 0,.int .u32 0,.int .i64 0,.int .u32 0,.int .i64 0,.slice none 0 0,.slice none 0 0,.int .i64 0,.int .i64 0,.int .u8 0,.slice none 0 0,.int .i64 0]
theorem act_info:(Try.prog.info? 45).map (fun i=>(i.zero,i.size,i.bytes))=some (some (actV 0 0 none 0 0),29,264):=by kernel_rfl
abbrev Ax:=Int × Int × (Option Addr × Nat × Nat)
def axL (a:Ax):List Value:=actL a.1 a.2.1 a.2.2.1 a.2.2.2.1 a.2.2.2.2
def acsV (L:List Ax):List Value:=L.flatMap axL
theorem axL_length (a:Ax):(axL a).length=29:=rfl
def zAx:Ax:=(0,0,none,0,0)
theorem acsV_at {L:List Ax} {i j:Nat} (hi:i < L.length) (hj:j < 29):(acsV L)[i * 29 + j]?=(axL (L.getD i zAx))[j]?:=by
 induction L generalizing i with
 | nil=>exact absurd hi (Nat.not_lt_zero _)
 | cons r L ih =>
  have e:acsV (r :: L)=axL r ++ acsV L:=rfl
  rw [e]
  cases i with
  | zero =>
   rw [Nat.zero_mul,Nat.zero_add,List.getElem?_append_left (by rw [axL_length];exact hj)]
   rfl
  | succ i =>
   rw [List.getElem?_append_right (by rw [axL_length];omega),show (i + 1) * 29 + j - (axL r).length=i * 29 + j by rw [axL_length];omega,ih (by simpa using hi)]
   rfl
theorem acsV_app (L M:List Ax):acsV (L ++ M)=acsV L ++ acsV M:=List.flatMap_append
theorem acsV_one (r:Ax):acsV [r]=axL r:=by simp [acsV]
theorem one_act (r:Ax):∀ v ∈ axL r,v.oneCell'=true:=by
 have h:(axL r).all (fun v=>v.oneCell')=true:=rfl
 intro v hv
 exact List.all_eq_true.1 h v hv
def OwnAcs (w:World) (base:Nat) (A:Option Addr) (n c:Nat) (L:List Ax):Prop:=w.ownsRow base 45 29 (.slice A n c) n (acsV L)∧L.length=n
section
variable {w w':World} {base base':Nat} {A:Option Addr} {n c:Nat} {L:List Ax}
theorem OwnAcs.below (h:OwnAcs w base A n c L) (hb:Below w.heap.size w w'):OwnAcs w' base A n c L:=⟨owns_below h.1 hb,h.2⟩
theorem OwnAcs.lower (h:OwnAcs w base A n c L) (hb:base'≤base):OwnAcs w base' A n c L:=⟨owns_base h.1 hb,h.2⟩
theorem OwnAcs.nil (w:World) (base:Nat):OwnAcs w base none 0 0 []:=⟨World.ownsRow_nil _ _ _ _,rfl⟩
theorem OwnAcs.keep (h:OwnAcs w base A n c L) (hk:∀ (g:Nat) (cs:Array Value),base≤g→w.heap[g]?=some (.cells cs 45 (0,0))→w'.heap[g]?=w.heap[g]?):OwnAcs w' base A n c L :=
 ⟨owns_keep h.1 fun g cs hg hc=>hk g cs hg hc,h.2⟩
theorem OwnAcs.cell (h:OwnAcs w base A n c L) {i:Nat} (hi:i < n):∃ b,A=some ⟨b,0,none⟩∧b < w.heap.size∧∀ j v,(axL (L.getD i zAx))[j]?=some v→w.cell? ⟨b,i * 29 + j,none⟩=some v:=by
 obtain ⟨hown,hl⟩:=h
 have h0:(acsV L)[i * 29 + 0]?=some (.int .u8 (L.getD i zAx).1):=by rw [acsV_at (by omega) (by omega)];rfl
 obtain ⟨b,e,hlt,_⟩:=owns_cell hown h0
 refine ⟨b,e,hlt,fun j v hv=>?_⟩
 have hj:j < 29:=by
  rcases Nat.lt_or_ge j 29 with hj | hj
  ·exact hj
  ·rw [List.getElem?_eq_none (by rw [axL_length];exact hj)] at hv;cases hv
 have h1:(acsV L)[i * 29 + j]?=some v:=by rw [acsV_at (by omega) hj];exact hv
 obtain ⟨b',e',_,hc⟩:=owns_cell hown h1
 rw [e] at e'
 cases e'
 exact hc
theorem OwnAcs.row (h:OwnAcs w base A n c L) {i:Nat} (hi:i < n):∃ b,A=some ⟨b,0,none⟩∧b < w.heap.size∧w.cell? ⟨b,i * 29,none⟩=some (.int .u8 (L.getD i zAx).1)∧w.cell? ⟨b,i * 29 + 1,none⟩=some (.int .i64 (L.getD i zAx).2.1)∧w.cell? ⟨b,i * 29 + 2,none⟩=some (.slice (L.getD i zAx).2.2.1 (L.getD i zAx).2.2.2.1 (L.getD i zAx).2.2.2.2):=by
 obtain ⟨b,e,hlt,hc⟩:=h.cell hi
 exact ⟨b,e,hlt,hc 0 _ rfl,hc 1 _ rfl,hc 2 _ rfl⟩
end
def AxIs (w:World) (L:List Ax) (l:List Ac):Prop:=l.length=L.length∧∀ i,i < L.length→(L.getD i zAx).1=(l.getD i (0,0,[])).1∧(L.getD i zAx).2.1=(l.getD i (0,0,[])).2.1∧Arg w .u8 (L.getD i zAx).2.2.1 (L.getD i zAx).2.2.2.1 (L.getD i zAx).2.2.2.2 (l.getD i (0,0,[])).2.2
theorem AxIs.below {w w':World} {L:List Ax} {l:List Ac} (h:AxIs w L l) (hb:Below w.heap.size w w'):AxIs w' L l:=⟨h.1,fun i hi=>⟨(h.2 i hi).1,(h.2 i hi).2.1,(h.2 i hi).2.2.below hb⟩⟩
end Go.Proofs.Ytdbeiikaeccbhaa
namespace Go.Proofs.Ytdbeiikaeccbhaa
open Go.RowKit
theorem small_wr {S:List Sec} {C:List Pnd} {x:Int} {b:Txt} (h:SmallD S C) (hw:wrE S C x b=0):SmallD S (C ++ [(x,b)]):=by
 have hb:b.length=32∧C.length < 64:=by
  unfold wrE at hw
  split at hw
  ·split at hw
   ·rename_i h1 h2
    split at hw
    ·cases hw
    ·exact ⟨h2,by omega⟩
   ·cases hw
  ·rename_i h1;exact absurd hw h1
 refine ⟨h.secs,by rw [List.length_append];simp;omega,h.long,fun p hp=>?_⟩
 rcases List.mem_append.1 hp with h1 | h1
 ·exact h.wide p h1
 ·rw [List.mem_singleton.1 h1];show b.length≤100;omega
def DoneD (w wr:World) (D:Option Addr) (d:Nat) (D':Option Addr) (d':Nat) (S:List Sec) (C:List Pnd) (A:Option Addr) (c:Nat) (A':Option Addr) (c':Nat) (S1:List Sec) (C1:List Pnd):Prop:=OwnDsk wr w.heap.size A S1.length c A' C1.length c' S1 C1∨(A=D∧c=d∧A'=D'∧c'=d'∧S1=S∧C1=C)
theorem DoneD.dsk {w wr:World} {D:Option Addr} {d:Nat} {D':Option Addr} {d':Nat} {S:List Sec} {C:List Pnd} {A:Option Addr} {c:Nat} {A':Option Addr} {c':Nat} {S1:List Sec} {C1:List Pnd} (h:DoneD w wr D d D' d' S C A c A' c' S1 C1) (ho:Dsk wr D S.length d D' C.length d' S C):Dsk wr A S1.length c A' C1.length c' S1 C1:=by
 rcases h with h | ⟨rfl,rfl,rfl,rfl,rfl,rfl⟩
 ·exact Dsk.of_own h
 ·exact ho
end Go.Proofs.Ytdbeiikaeccbhaa
