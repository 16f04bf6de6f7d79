/- Texts of the layers below, joined. -/
import Derived.Test.YtdbeiikaeccbhaaDa11
import Derived.Deep.RegionWith
import Derived.Deep.Cut
import Derived.Lib.QuoteBits
set_option maxRecDepth 100000
set_option maxHeartbeats 12800000
set_option linter.unusedVariables false
namespace Go.Proofs.Ytdbeiikaeccbhaa
open Go.RowKit Go.OpenShut Go.ChangeShapes Go.WideShapes Go.Deep Go.Joins
theorem sec_pair {w:World} {A:Option Addr} {n c:Nat} {ss:List Sec} (h:Secs w A n c ss):∃ news:List Value,news.length=n * 2∧(∀ j u,news[j]?=some u→∃ b o,A=some ⟨b,o,none⟩∧w.cell? ⟨b,o + j,none⟩=some u)∧(∀ u ∈ news,u.oneCell'=true) ∧
  ∀ i,i < n→∃ Ai ni ci,news[i * 2]?=some (.slice Ai ni ci)∧news[i * 2 + 1]?=some (.bool (ss.getD i (false,[])).1)∧Arg w .u8 Ai ni ci (ss.getD i (false,[])).2:=by
 have each:∀ j,j < n * 2→∃ u,(∃ b o,A=some ⟨b,o,none⟩∧w.cell? ⟨b,o + j,none⟩=some u)∧u.oneCell'=true∧(∀ i,j=i * 2→∃ Ai ni ci,u=.slice Ai ni ci∧Arg w .u8 Ai ni ci (ss.getD i (false,[])).2)∧∀ i,j=i * 2 + 1→u=.bool (ss.getD i (false,[])).1:=fun j hj=>by
  obtain ⟨b,o,Ai,ni,ci,e,hlt,hc,hx,ha⟩:=h.at_ (j / 2) (by omega)
  rcases Nat.mod_two_eq_zero_or_one j with h2 | h2
  ·have ej:o + j=o + j / 2 * 2:=by omega
   exact ⟨.slice Ai ni ci,⟨b,o,e,by rw [ej];exact hc⟩,rfl,fun i hi=>⟨Ai,ni,ci,rfl,by rw [show i=j / 2 by omega];exact ha⟩,fun i hi=>by omega⟩
  ·have ej:o + j=o + j / 2 * 2 + 1:=by omega
   exact ⟨.bool (ss.getD (j / 2) (false,[])).1,⟨b,o,e,by rw [ej];exact hx⟩,rfl,fun i hi=>by omega,fun i hi=>by rw [show i=j / 2 by omega]⟩
 obtain ⟨f,hf⟩:=choose_lt each
 refine ⟨(List.range (n * 2)).map f,by simp,fun j u hu=>?_,fun u hu=>?_,fun i hi=>?_⟩
 ·have hj:j < n * 2:=by
   have:=(List.getElem?_eq_some_iff.1 hu).1
   simpa using this
  have e:u=f j:=by simpa [hj] using hu.symm
  rw [e]
  exact (hf j hj).1
 ·obtain ⟨j,hj,rfl⟩:=List.mem_map.1 hu
  exact (hf j (List.mem_range.1 hj)).2.1
 ·obtain ⟨Ai,ni,ci,e,ha⟩:=(hf (i * 2) (by omega)).2.2.1 i rfl
  have e2:=(hf (i * 2 + 1) (by omega)).2.2.2 i rfl
  refine ⟨Ai,ni,ci,?_,?_,ha⟩
  ·rw [← e]
   simp [show i * 2 < n * 2 by omega]
  ·rw [← e2]
   simp [show i * 2 + 1 < n * 2 by omega]
def Secs_cells (w:World) (n:Nat) (ss:List Sec) (vs:List Value):Prop :=
 ∀ i,i < n→∃ Ai ni ci,vs[i * 2]?=some (.slice Ai ni ci)∧vs[i * 2 + 1]?=some (.bool (ss.getD i (false,[])).1)∧Arg w .u8 Ai ni ci (ss.getD i (false,[])).2
theorem cloneSecs_any (A:Option Addr) (n c:Nat) (ss:List Sec) (w0 w:World) (h:Secs w0 A n c ss) (hw0:Below w0.heap.size w0 w) (hn:n≤100000) :
  Calls Try.prog 91 #[.slice A n c] w fun e w'=>∃ B d vs,e=.returned (.slice B n d)∧w'.ownsRow w.heap.size 86 2 (.slice B n d) n vs∧Secs_cells w0 n ss vs∧Below w.heap.size w w':=by
 obtain ⟨i0,hi0,hz0,hz1,hz2⟩:=info_parts sec_info
 have hml:(100000:Nat)≤maxLen:=by decide
 have hnil:=Lib.run_eql_slice_nil (P:=Try.prog) w 53 86 A n c 0 0 Try.underlying53
 obtain ⟨news,hl,hcell,h1,hcs⟩:=sec_pair h
 cases A with
 | none =>
  have hn0:n=0:=by
   rcases Nat.eq_zero_or_pos n with h0 | h0
   ·exact h0
   ·obtain ⟨_,_,_,_,_,e,_⟩:=h.at_ 0 h0
    cases e
  subst hn0
  clear h hw0 hcell h1 hcs
  go_enter Try.func91,Try.ntmps91
  go_wp2
  go_ret
  exact ⟨none,0,[],rfl,World.ownsRow_nil _ _ _ _,fun i hi=>by omega,Below.refl _ _⟩
 | some a =>
  have hlit:(w.alloc (.cells #[] 86)).ownsRow w.heap.size 86 2 (.slice (some ⟨w.heap.size,0,none⟩) 0 0) 0 []:=World.ownsRow_lit w #[] 0 (Nat.le_refl _) (by decide) rfl
  obtain ⟨v',w',hrun,hown,hg,_,_⟩:=run_append_own_at (P:=Try.prog) (w:=w.alloc (.cells #[] 86)) w.heap.size 53 53 86 i0 _ 2 32 Try.underlying53 hi0 hz0 hz1 hz2 rfl (by decide) _ 0 [] hlit a n c news hl (fun j u hu=>by
   obtain ⟨b,o,e,hc⟩:=hcell j u hu
   cases e
   have e2:(⟨b,o,none⟩:Addr).add j=⟨b,o + j,none⟩:=by unfold Addr.add;split <;> simp_all
   have hlt:=World.block_lt_of_cell? w0 _ hc
   have hlt:b < w0.heap.size:=hlt
   rw [e2,World.cell?_alloc_lt _ _ _ (show b < w.heap.size from Nat.lt_of_lt_of_le hlt hw0.size)]
   exact (hw0.cell (p:=⟨b,_,none⟩) hlt).trans hc) h1 (by omega) (by omega) (by simp)
  rw [Nat.zero_add,List.nil_append] at hown
  have hB:Below w.heap.size w w':=((Below.refl _ _).alloc (Nat.le_refl _) _).grown hg (by simp) (fun g e=>by have e:some w.heap.size=some g:=e;injection e with e;omega)
  have hv:∃ B d,v'=.slice B n d:=by
   rcases hown.2 with ⟨rfl,rfl⟩ | ⟨g,cap,cur,rfl,_⟩
   ·exact ⟨none,0,rfl⟩
   ·exact ⟨_,_,rfl⟩
  obtain ⟨B,d,rfl⟩:=hv
  have HRUN:=Lh hrun
  have RES:=Lh (show ∃ B' d' vs,(Ending.returned (.slice B n d))=.returned (.slice B' n d')∧w'.ownsRow w.heap.size 86 2 (.slice B' n d') n vs∧Secs_cells w0 n ss vs∧Below w.heap.size w w' from ⟨B,d,news,rfl,hown,hcs,hB⟩)
  clear hrun hown hB hcs hlit hg h hw0 hcell h1
  go_enter Try.func91,Try.ntmps91
  go_wp2_with (at_builtin;refine wpList_app_eq rfl (.tmp 5) (.tmp 6) 53 53 rfl rfl rfl HRUN.out ?_)
  go_ret
  exact RES.out
def SecsTo (w0 w:World) (base M m:Nat) (A:Option Addr) (n c:Nat) (ss:List Sec) (k:Nat):Prop :=
 ∃ vs:List Value,w.ownsRow base 86 2 (.slice A n c) n vs∧∀ i,i < n→∃ Ai ni ci,vs[i * 2]?=some (.slice Ai ni ci)∧vs[i * 2 + 1]?=some (.bool (ss.getD i (false,[])).1)∧(if i < k then TxtIn w base M m Ai ni ci (ss.getD i (false,[])).2 else Arg w0 .u8 Ai ni ci (ss.getD i (false,[])).2)
theorem SecsTo.start {w0 w:World} {base b0:Nat} (M m:Nat) {A:Option Addr} {n c:Nat} {ss:List Sec} {vs:List Value} (h:w.ownsRow b0 86 2 (.slice A n c) n vs) (hb:base≤b0) (hc:Secs_cells w0 n ss vs):SecsTo w0 w base M m A n c ss 0 :=
 ⟨vs,owns_base h hb,fun i hi=>by
  obtain ⟨Ai,ni,ci,h1,h2,h3⟩:=hc i hi
  exact ⟨Ai,ni,ci,h1,h2,by rw [if_neg (by omega)];exact h3⟩⟩
section
variable {w0 w w':World} {base M m:Nat} {A:Option Addr} {n c:Nat} {ss:List Sec} {k:Nat}
theorem SecsTo.keep (h:SecsTo w0 w base M m A n c ss k) (hk:∀ (g:Nat) (e:TypeId) (cs:Array Value),(e=86∨e=5)→base≤g→w.heap[g]?=some (.cells cs e (0,0))→w'.heap[g]?=w.heap[g]?):SecsTo w0 w' base M m A n c ss k:=by
 obtain ⟨vs,hown,hin⟩:=h
 refine ⟨vs,owns_keep hown fun g cs hg hc=>hk g _ cs (.inl rfl) hg hc,fun i hi=>?_⟩
 obtain ⟨Ai,ni,ci,hv,hx,ho⟩:=hin i hi
 refine ⟨Ai,ni,ci,hv,hx,?_⟩
 split at ho
 ·rename_i hik
  rw [if_pos hik]
  exact ho.keep fun g hg hu=>by
   obtain ⟨cs,hc⟩:=hu
   exact hk g _ cs (.inr rfl) hg hc
 ·rename_i hik
  rw [if_neg hik]
  exact ho
theorem SecsTo.below (h:SecsTo w0 w base M m A n c ss k) (hb:Below w.heap.size w w'):SecsTo w0 w' base M m A n c ss k :=
 h.keep fun g _ _ _ _ hc=>hb.block g (Array.getElem?_eq_some_iff.1 hc).1
theorem SecsTo.kept {Bm:Nat} {mem b:List Int} {kk:Nat} {A2:Option Addr} {M' cm':Nat} {c0:List Value} (h:SecsTo w0 w base M m A n c ss k) (hk:Kept w base Bm M m mem kk b A2 M' cm' w') (hb:Blk w Bm 146 c0) (hu:U8 w M):SecsTo w0 w' base M' (m + kk) A n c ss k:=by
 obtain ⟨vs,hown,hin⟩:=h
 refine ⟨vs,owns_keep hown fun g cs _ hc=>hk.same g (Array.getElem?_eq_some_iff.1 hc).1 (fun e=>?_) (fun e=>?_),fun i hi=>?_⟩
 ·subst e
  unfold Blk at hb
  rw [hb] at hc
  simp at hc
 ·subst e
  obtain ⟨cs',hc'⟩:=hu
  rw [hc'] at hc
  simp at hc
 ·obtain ⟨Ai,ni,ci,hv,hx,ho⟩:=hin i hi
  refine ⟨Ai,ni,ci,hv,hx,?_⟩
  split at ho
  ·rename_i hik
   rw [if_pos hik]
   exact hk.stay _ _ _ _ ho
  ·rename_i hik
   rw [if_neg hik]
   exact ho
theorem SecsTo.get (h:SecsTo w0 w base M m A n c ss k) (hkn:k < n):∃ g Ai ni ci,A=some ⟨g,0,none⟩∧base≤g∧w.cell? ⟨g,k * 2,none⟩=some (.slice Ai ni ci)∧w.frozen? ⟨g,k * 2,none⟩=false∧Arg w0 .u8 Ai ni ci (ss.getD k (false,[])).2∧(∃ cs,w.heap[g]?=some (.cells cs 86 (0,0))):=by
 obtain ⟨vs,hown,hin⟩:=h
 obtain ⟨Ai,ni,ci,hv,hx,ho⟩:=hin k hkn
 rw [if_neg (by omega)] at ho
 obtain ⟨g,u,e,hbg,_⟩:=owns_at2 hown (show k * 2 < n * 2 by omega)
 obtain ⟨b,e',hlt,hc⟩:=owns_cell hown hv
 rw [e] at e'
 cases e'
 refine ⟨g,Ai,ni,ci,e,hbg,hc,?_,ho,?_⟩
 ·subst e
  exact hown.frozenAt _
 ·rcases hown.2 with ⟨e2,_⟩ | ⟨g2,cap,cur,e2,_,hg2,_⟩
  ·rw [e] at e2;cases e2
  ·rw [e] at e2
   cases e2
   exact ⟨cur,hg2⟩
theorem SecsTo.put {g:Nat} (h:SecsTo w0 w base M m (some ⟨g,0,none⟩) n c ss k) (hkn:k < n) {A2:Option Addr} {n2 c2:Nat} (ht:TxtIn w base M m A2 n2 c2 (ss.getD k (false,[])).2):SecsTo w0 (w.setCell ⟨g,k * 2,none⟩ (.slice A2 n2 c2)) base M m (some ⟨g,0,none⟩) n c ss (k + 1):=by
 obtain ⟨vs,hown,hin⟩:=h
 have hvl:vs.length=n * 2:=hown.1
 obtain ⟨g',u,e,hbg,hc,hf,hset⟩:=owns_at2 hown (show k * 2 < n * 2 by omega)
 cases e
 have hu8:∀ {A':Option Addr} {n' c':Nat} {zs:List Int},TxtIn w base M m A' n' c' zs→TxtIn (w.setCell ⟨g,k * 2,none⟩ (.slice A2 n2 c2)) base M m A' n' c' zs:=fun hx =>
  hx.keep fun g' _ hu=>Below.heap_setCell w _ _ g' (fun e=>by subst e;exact u8_row (by decide) hu hown rfl)
 refine ⟨_,hset _,fun i hi=>?_⟩
 by_cases e:k=i
 ·subst e
  obtain ⟨Aj,nj,cj,hv,hx,hoj⟩:=hin k hi
  refine ⟨A2,n2,c2,by rw [List.getElem?_set_self (by omega)],by rw [List.getElem?_set_ne (by omega)];exact hx,?_⟩
  rw [if_pos (by omega)]
  exact hu8 ht
 ·obtain ⟨Aj,nj,cj,hv,hx,hoj⟩:=hin i hi
  refine ⟨Aj,nj,cj,by rw [List.getElem?_set_ne (by omega)];exact hv,by rw [List.getElem?_set_ne (by omega)];exact hx,?_⟩
  split at hoj
  ·rename_i hik
   rw [if_pos (by omega)]
   exact hu8 hoj
  ·rename_i hik
   rw [if_neg (by omega)]
   exact hoj
theorem SecsTo.done (h:SecsTo w0 w base M m A n c ss k) (hk:n≤k) (hl:ss.length=n) (hb:∀ s ∈ ss,∀ z ∈ s.2,isByte z):OwnSecs w base A n c ss:=by
 obtain ⟨vs,hown,hin⟩:=h
 refine ⟨vs,hown,hl,hb,fun i hi=>?_⟩
 obtain ⟨Ai,ni,ci,hv,hx,ho⟩:=hin i hi
 rw [if_pos (by omega)] at ho
 exact ⟨Ai,ni,ci,hv,hx,ho.1⟩
end
theorem pnd_pair {w:World} {A:Option Addr} {n c:Nat} {ss:List Pnd} (h:Pnds w A n c ss):∃ news:List Value,news.length=n * 2∧(∀ j u,news[j]?=some u→∃ b o,A=some ⟨b,o,none⟩∧w.cell? ⟨b,o + j,none⟩=some u)∧(∀ u ∈ news,u.oneCell'=true) ∧
  ∀ i,i < n→∃ Ai ni ci,news[i * 2 + 1]?=some (.slice Ai ni ci)∧news[i * 2]?=some (.int .i64 (ss.getD i (0,[])).1)∧Arg w .u8 Ai ni ci (ss.getD i (0,[])).2:=by
 have each:∀ j,j < n * 2→∃ u,(∃ b o,A=some ⟨b,o,none⟩∧w.cell? ⟨b,o + j,none⟩=some u)∧u.oneCell'=true∧(∀ i,j=i * 2 + 1→∃ Ai ni ci,u=.slice Ai ni ci∧Arg w .u8 Ai ni ci (ss.getD i (0,[])).2)∧∀ i,j=i * 2→u=.int .i64 (ss.getD i (0,[])).1:=fun j hj=>by
  obtain ⟨b,o,Ai,ni,ci,e,hlt,hc,hx,ha⟩:=h.at_ (j / 2) (by omega)
  rcases Nat.mod_two_eq_zero_or_one j with h2 | h2
  ·have ej:o + j=o + j / 2 * 2:=by omega
   exact ⟨.int .i64 (ss.getD (j / 2) (0,[])).1,⟨b,o,e,by rw [ej];exact hx⟩,rfl,fun i hi=>by omega,fun i hi=>by rw [show i=j / 2 by omega]⟩
  ·have ej:o + j=o + j / 2 * 2 + 1:=by omega
   exact ⟨.slice Ai ni ci,⟨b,o,e,by rw [ej];exact hc⟩,rfl,fun i hi=>⟨Ai,ni,ci,rfl,by rw [show i=j / 2 by omega];exact ha⟩,fun i hi=>by omega⟩
 obtain ⟨f,hf⟩:=choose_lt each
 refine ⟨(List.range (n * 2)).map f,by simp,fun j u hu=>?_,fun u hu=>?_,fun i hi=>?_⟩
 ·have hj:j < n * 2:=by
   have:=(List.getElem?_eq_some_iff.1 hu).1
   simpa using this
  have e:u=f j:=by simpa [hj] using hu.symm
  rw [e]
  exact (hf j hj).1
 ·obtain ⟨j,hj,rfl⟩:=List.mem_map.1 hu
  exact (hf j (List.mem_range.1 hj)).2.1
 ·obtain ⟨Ai,ni,ci,e,ha⟩:=(hf (i * 2 + 1) (by omega)).2.2.1 i rfl
  have e2:=(hf (i * 2) (by omega)).2.2.2 i rfl
  refine ⟨Ai,ni,ci,?_,?_,ha⟩
  ·rw [← e]
   simp [show i * 2 + 1 < n * 2 by omega]
  ·rw [← e2]
   simp [show i * 2 < n * 2 by omega]
def Pnds_cells (w:World) (n:Nat) (ss:List Pnd) (vs:List Value):Prop :=
 ∀ i,i < n→∃ Ai ni ci,vs[i * 2 + 1]?=some (.slice Ai ni ci)∧vs[i * 2]?=some (.int .i64 (ss.getD i (0,[])).1)∧Arg w .u8 Ai ni ci (ss.getD i (0,[])).2
theorem clonePnds_any (A:Option Addr) (n c:Nat) (ss:List Pnd) (w0 w:World) (h:Pnds w0 A n c ss) (hw0:Below w0.heap.size w0 w) (hn:n≤100000) :
  Calls Try.prog 92 #[.slice A n c] w fun e w'=>∃ B d vs,e=.returned (.slice B n d)∧w'.ownsRow w.heap.size 33 2 (.slice B n d) n vs∧Pnds_cells w0 n ss vs∧Below w.heap.size w w':=by
 obtain ⟨i0,hi0,hz0,hz1,hz2⟩:=info_parts pnd_info
 have hml:(100000:Nat)≤maxLen:=by decide
 have hnil:=Lib.run_eql_slice_nil (P:=Try.prog) w 54 33 A n c 0 0 Try.underlying54
 obtain ⟨news,hl,hcell,h1,hcs⟩:=pnd_pair h
 cases A with
 | none =>
  have hn0:n=0:=by
   rcases Nat.eq_zero_or_pos n with h0 | h0
   ·exact h0
   ·obtain ⟨_,_,_,_,_,e,_⟩:=h.at_ 0 h0
    cases e
  subst hn0
  clear h hw0 hcell h1 hcs
  go_enter Try.func92,Try.ntmps92
  go_wp2
  go_ret
  exact ⟨none,0,[],rfl,World.ownsRow_nil _ _ _ _,fun i hi=>by omega,Below.refl _ _⟩
 | some a =>
  have hlit:(w.alloc (.cells #[] 33)).ownsRow w.heap.size 33 2 (.slice (some ⟨w.heap.size,0,none⟩) 0 0) 0 []:=World.ownsRow_lit w #[] 0 (Nat.le_refl _) (by decide) rfl
  obtain ⟨v',w',hrun,hown,hg,_,_⟩:=run_append_own_at (P:=Try.prog) (w:=w.alloc (.cells #[] 33)) w.heap.size 54 54 33 i0 _ 2 32 Try.underlying54 hi0 hz0 hz1 hz2 rfl (by decide) _ 0 [] hlit a n c news hl (fun j u hu=>by
   obtain ⟨b,o,e,hc⟩:=hcell j u hu
   cases e
   have e2:(⟨b,o,none⟩:Addr).add j=⟨b,o + j,none⟩:=by unfold Addr.add;split <;> simp_all
   have hlt:=World.block_lt_of_cell? w0 _ hc
   have hlt:b < w0.heap.size:=hlt
   rw [e2,World.cell?_alloc_lt _ _ _ (show b < w.heap.size from Nat.lt_of_lt_of_le hlt hw0.size)]
   exact (hw0.cell (p:=⟨b,_,none⟩) hlt).trans hc) h1 (by omega) (by omega) (by simp)
  rw [Nat.zero_add,List.nil_append] at hown
  have hB:Below w.heap.size w w':=((Below.refl _ _).alloc (Nat.le_refl _) _).grown hg (by simp) (fun g e=>by have e:some w.heap.size=some g:=e;injection e with e;omega)
  have hv:∃ B d,v'=.slice B n d:=by
   rcases hown.2 with ⟨rfl,rfl⟩ | ⟨g,cap,cur,rfl,_⟩
   ·exact ⟨none,0,rfl⟩
   ·exact ⟨_,_,rfl⟩
  obtain ⟨B,d,rfl⟩:=hv
  have HRUN:=Lh hrun
  have RES:=Lh (show ∃ B' d' vs,(Ending.returned (.slice B n d))=.returned (.slice B' n d')∧w'.ownsRow w.heap.size 33 2 (.slice B' n d') n vs∧Pnds_cells w0 n ss vs∧Below w.heap.size w w' from ⟨B,d,news,rfl,hown,hcs,hB⟩)
  clear hrun hown hB hcs hlit hg h hw0 hcell h1
  go_enter Try.func92,Try.ntmps92
  go_wp2_with (at_builtin;refine wpList_app_eq rfl (.tmp 5) (.tmp 6) 54 54 rfl rfl rfl HRUN.out ?_)
  go_ret
  exact RES.out
def PndsTo (w0 w:World) (base M m:Nat) (A:Option Addr) (n c:Nat) (ss:List Pnd) (k:Nat):Prop :=
 ∃ vs:List Value,w.ownsRow base 33 2 (.slice A n c) n vs∧∀ i,i < n→∃ Ai ni ci,vs[i * 2 + 1]?=some (.slice Ai ni ci)∧vs[i * 2]?=some (.int .i64 (ss.getD i (0,[])).1)∧(if i < k then TxtIn w base M m Ai ni ci (ss.getD i (0,[])).2 else Arg w0 .u8 Ai ni ci (ss.getD i (0,[])).2)
theorem PndsTo.start {w0 w:World} {base b0:Nat} (M m:Nat) {A:Option Addr} {n c:Nat} {ss:List Pnd} {vs:List Value} (h:w.ownsRow b0 33 2 (.slice A n c) n vs) (hb:base≤b0) (hc:Pnds_cells w0 n ss vs):PndsTo w0 w base M m A n c ss 0 :=
 ⟨vs,owns_base h hb,fun i hi=>by
  obtain ⟨Ai,ni,ci,h1,h2,h3⟩:=hc i hi
  exact ⟨Ai,ni,ci,h1,h2,by rw [if_neg (by omega)];exact h3⟩⟩
section
variable {w0 w w':World} {base M m:Nat} {A:Option Addr} {n c:Nat} {ss:List Pnd} {k:Nat}
theorem PndsTo.keep (h:PndsTo w0 w base M m A n c ss k) (hk:∀ (g:Nat) (e:TypeId) (cs:Array Value),(e=33∨e=5)→base≤g→w.heap[g]?=some (.cells cs e (0,0))→w'.heap[g]?=w.heap[g]?):PndsTo w0 w' base M m A n c ss k:=by
 obtain ⟨vs,hown,hin⟩:=h
 refine ⟨vs,owns_keep hown fun g cs hg hc=>hk g _ cs (.inl rfl) hg hc,fun i hi=>?_⟩
 obtain ⟨Ai,ni,ci,hv,hx,ho⟩:=hin i hi
 refine ⟨Ai,ni,ci,hv,hx,?_⟩
 split at ho
 ·rename_i hik
  rw [if_pos hik]
  exact ho.keep fun g hg hu=>by
   obtain ⟨cs,hc⟩:=hu
   exact hk g _ cs (.inr rfl) hg hc
 ·rename_i hik
  rw [if_neg hik]
  exact ho
theorem PndsTo.below (h:PndsTo w0 w base M m A n c ss k) (hb:Below w.heap.size w w'):PndsTo w0 w' base M m A n c ss k :=
 h.keep fun g _ _ _ _ hc=>hb.block g (Array.getElem?_eq_some_iff.1 hc).1
theorem PndsTo.kept {Bm:Nat} {mem b:List Int} {kk:Nat} {A2:Option Addr} {M' cm':Nat} {c0:List Value} (h:PndsTo w0 w base M m A n c ss k) (hk:Kept w base Bm M m mem kk b A2 M' cm' w') (hb:Blk w Bm 146 c0) (hu:U8 w M):PndsTo w0 w' base M' (m + kk) A n c ss k:=by
 obtain ⟨vs,hown,hin⟩:=h
 refine ⟨vs,owns_keep hown fun g cs _ hc=>hk.same g (Array.getElem?_eq_some_iff.1 hc).1 (fun e=>?_) (fun e=>?_),fun i hi=>?_⟩
 ·subst e
  unfold Blk at hb
  rw [hb] at hc
  simp at hc
 ·subst e
  obtain ⟨cs',hc'⟩:=hu
  rw [hc'] at hc
  simp at hc
 ·obtain ⟨Ai,ni,ci,hv,hx,ho⟩:=hin i hi
  refine ⟨Ai,ni,ci,hv,hx,?_⟩
  split at ho
  ·rename_i hik
   rw [if_pos hik]
   exact hk.stay _ _ _ _ ho
  ·rename_i hik
   rw [if_neg hik]
   exact ho
theorem PndsTo.get (h:PndsTo w0 w base M m A n c ss k) (hkn:k < n):∃ g Ai ni ci,A=some ⟨g,0,none⟩∧base≤g∧w.cell? ⟨g,k * 2 + 1,none⟩=some (.slice Ai ni ci)∧w.frozen? ⟨g,k * 2 + 1,none⟩=false∧Arg w0 .u8 Ai ni ci (ss.getD k (0,[])).2∧(∃ cs,w.heap[g]?=some (.cells cs 33 (0,0))):=by
 obtain ⟨vs,hown,hin⟩:=h
 obtain ⟨Ai,ni,ci,hv,hx,ho⟩:=hin k hkn
 rw [if_neg (by omega)] at ho
 obtain ⟨g,u,e,hbg,_⟩:=owns_at2 hown (show k * 2 < n * 2 by omega)
 obtain ⟨b,e',hlt,hc⟩:=owns_cell hown hv
 rw [e] at e'
 cases e'
 refine ⟨g,Ai,ni,ci,e,hbg,hc,?_,ho,?_⟩
 ·subst e
  exact hown.frozenAt _
 ·rcases hown.2 with ⟨e2,_⟩ | ⟨g2,cap,cur,e2,_,hg2,_⟩
  ·rw [e] at e2;cases e2
  ·rw [e] at e2
   cases e2
   exact ⟨cur,hg2⟩
theorem PndsTo.put {g:Nat} (h:PndsTo w0 w base M m (some ⟨g,0,none⟩) n c ss k) (hkn:k < n) {A2:Option Addr} {n2 c2:Nat} (ht:TxtIn w base M m A2 n2 c2 (ss.getD k (0,[])).2):PndsTo w0 (w.setCell ⟨g,k * 2 + 1,none⟩ (.slice A2 n2 c2)) base M m (some ⟨g,0,none⟩) n c ss (k + 1):=by
 obtain ⟨vs,hown,hin⟩:=h
 have hvl:vs.length=n * 2:=hown.1
 obtain ⟨g',u,e,hbg,hc,hf,hset⟩:=owns_at2 hown (show k * 2 + 1 < n * 2 by omega)
 cases e
 have hu8:∀ {A':Option Addr} {n' c':Nat} {zs:List Int},TxtIn w base M m A' n' c' zs→TxtIn (w.setCell ⟨g,k * 2 + 1,none⟩ (.slice A2 n2 c2)) base M m A' n' c' zs:=fun hx =>
  hx.keep fun g' _ hu=>Below.heap_setCell w _ _ g' (fun e=>by subst e;exact u8_row (by decide) hu hown rfl)
 refine ⟨_,hset _,fun i hi=>?_⟩
 by_cases e:k=i
 ·subst e
  obtain ⟨Aj,nj,cj,hv,hx,hoj⟩:=hin k hi
  refine ⟨A2,n2,c2,by rw [List.getElem?_set_self (by omega)],by rw [List.getElem?_set_ne (by omega)];exact hx,?_⟩
  rw [if_pos (by omega)]
  exact hu8 ht
 ·obtain ⟨Aj,nj,cj,hv,hx,hoj⟩:=hin i hi
  refine ⟨Aj,nj,cj,by rw [List.getElem?_set_ne (by omega)];exact hv,by rw [List.getElem?_set_ne (by omega)];exact hx,?_⟩
  split at hoj
  ·rename_i hik
   rw [if_pos (by omega)]
   exact hu8 hoj
  ·rename_i hik
   rw [if_neg (by omega)]
   exact hoj
theorem PndsTo.done (h:PndsTo w0 w base M m A n c ss k) (hk:n≤k) (hl:ss.length=n) (hb:∀ s ∈ ss,∀ z ∈ s.2,isByte z):OwnPnds w base A n c ss:=by
 obtain ⟨vs,hown,hin⟩:=h
 refine ⟨vs,hown,hl,hb,fun i hi=>?_⟩
 obtain ⟨Ai,ni,ci,hv,hx,ho⟩:=hin i hi
 rw [if_pos (by omega)] at ho
 exact ⟨Ai,ni,ci,hv,hx,ho.1⟩
end
end Go.Proofs.Ytdbeiikaeccbhaa
namespace Go.Proofs.Ytdbeiikaeccbhaa
open Go.RowKit
structure TwS (w wr:World) (B:Option Addr) (n d:Nat) (B':Option Addr) (n' d':Nat) (S:List Sec) (C:List Pnd) (M m cm:Nat) (mem:List Int) (ks kp:Nat):Prop where
 secs:SecsTo w wr w.heap.size M m B n d S ks
 pnds:PndsTo w wr w.heap.size M m B' n' d' C kp
 box:Blk wr w.heap.size 56 [.slice B n d,.slice B' n' d']
 res:Blk wr (w.heap.size + 1) 56 [.slice none 0 0,.slice none 0 0]
 store:Blk wr (w.heap.size + 3) 146 [.slice (some ⟨M,0,none⟩) m cm]
 mem:wr.ownsRow w.heap.size 5 1 (.slice (some ⟨M,0,none⟩) m cm) m (ints .u8 mem)
 below:Below w.heap.size w wr
section
variable {w wr w2:World} {B:Option Addr} {n d:Nat} {B':Option Addr} {n' d':Nat} {S:List Sec} {C:List Pnd} {M m cm:Nat} {mem:List Int} {ks kp:Nat}
theorem TwS.on (h:TwS w wr B n d B' n' d' S C M m cm mem ks kp) (hb:Below wr.heap.size wr w2):TwS w w2 B n d B' n' d' S C M m cm mem ks kp :=
 ⟨h.secs.below hb,h.pnds.below hb,h.box.below hb h.box.lt,h.res.below hb h.res.lt,h.store.below hb h.store.lt,owns_below h.mem hb,h.below.trans (hb.mono h.below.size)⟩
theorem TwS.kept (h:TwS w wr B n d B' n' d' S C M m cm mem ks kp) {kk:Nat} {b:List Int} {A2:Option Addr} {M' cm':Nat} (hk:Kept wr w.heap.size (w.heap.size + 3) M m mem kk b A2 M' cm' w2):TwS w w2 B n d B' n' d' S C M' (m + kk) cm' (mem ++ b) ks kp:=by
 have hu:=U8.of_owns h.mem
 have hM1:w.heap.size≠M:=fun e=>by subst e;exact u8_blk (by decide) hu h.box
 have hM2:w.heap.size + 1≠M:=fun e=>by subst e;exact u8_blk (by decide) hu h.res
 exact ⟨h.secs.kept hk h.store hu,h.pnds.kept hk h.store hu,(hk.same _ h.box.lt (by omega) hM1).trans h.box,(hk.same _ h.res.lt (by omega) hM2).trans h.res,hk.box,hk.own,h.below.trans hk.below⟩
theorem TwS.put_sec (h:TwS w wr B n d B' n' d' S C M m cm mem ks kp) {g:Nat} (hB:B=some ⟨g,0,none⟩) (hkn:ks < n) {A2:Option Addr} {n2 c2:Nat} (ht:TxtIn wr w.heap.size M m A2 n2 c2 (S.getD ks (false,[])).2):TwS w (wr.setCell ⟨g,ks * 2,none⟩ (.slice A2 n2 c2)) B n d B' n' d' S C M m cm mem (ks + 1) kp:=by
 obtain ⟨g',Ai,ni,ci,e,hbg,_,_,_,cs,hcs⟩:=h.secs.get hkn
 rw [hB] at e
 cases e
 have hne:∀ {k:Nat} {t:TypeId} {c:List Value},t≠86→Blk wr k t c→k≠g:=fun ht hb e=>by
  subst e
  unfold Blk at hb
  rw [hb] at hcs
  simp at hcs
  exact ht hcs.2
 have hoth:∀ (g':Nat) (e:TypeId) (c:Array Value),e≠86→wr.heap[g']?=some (.cells c e (0,0))→(wr.setCell ⟨g,ks * 2,none⟩ (.slice A2 n2 c2)).heap[g']?=wr.heap[g']?:=fun g' e c he hc=>Below.heap_setCell wr _ _ g' (fun e2=>by
  have e3:g'=g:=e2
  subst e3
  rw [hcs] at hc
  simp at hc
  exact he hc.2.symm)
 have hput:=(hB ▸ h.secs).put hkn ht
 refine ⟨?_,?_,h.box.away (hne (by decide) h.box) _ _,h.res.away (hne (by decide) h.res) _ _,h.store.away (hne (by decide) h.store) _ _,owns_keep h.mem (fun g' c _ hc=>hoth g' _ c (by decide) hc),h.below.setCell (p:=⟨g,_,none⟩) hbg _⟩
 ·subst hB;exact hput
 ·exact h.pnds.keep fun g' e c he _ hc=>hoth g' e c (by rcases he with rfl | rfl <;> decide) hc
theorem TwS.put_pnd (h:TwS w wr B n d B' n' d' S C M m cm mem ks kp) {g:Nat} (hB:B'=some ⟨g,0,none⟩) (hkn:kp < n') {A2:Option Addr} {n2 c2:Nat} (ht:TxtIn wr w.heap.size M m A2 n2 c2 (C.getD kp (0,[])).2):TwS w (wr.setCell ⟨g,kp * 2 + 1,none⟩ (.slice A2 n2 c2)) B n d B' n' d' S C M m cm mem ks (kp + 1):=by
 obtain ⟨g',Ai,ni,ci,e,hbg,_,_,_,cs,hcs⟩:=h.pnds.get hkn
 rw [hB] at e
 cases e
 have hne:∀ {k:Nat} {t:TypeId} {c:List Value},t≠33→Blk wr k t c→k≠g:=fun ht hb e=>by
  subst e
  unfold Blk at hb
  rw [hb] at hcs
  simp at hcs
  exact ht hcs.2
 have hoth:∀ (g':Nat) (e:TypeId) (c:Array Value),e≠33→wr.heap[g']?=some (.cells c e (0,0))→(wr.setCell ⟨g,kp * 2 + 1,none⟩ (.slice A2 n2 c2)).heap[g']?=wr.heap[g']?:=fun g' e c he hc=>Below.heap_setCell wr _ _ g' (fun e2=>by
  have e3:g'=g:=e2
  subst e3
  rw [hcs] at hc
  simp at hc
  exact he hc.2.symm)
 have hput:=(hB ▸ h.pnds).put hkn ht
 refine ⟨?_,?_,h.box.away (hne (by decide) h.box) _ _,h.res.away (hne (by decide) h.res) _ _,h.store.away (hne (by decide) h.store) _ _,owns_keep h.mem (fun g' c _ hc=>hoth g' _ c (by decide) hc),h.below.setCell (p:=⟨g,_,none⟩) hbg _⟩
 ·exact h.secs.keep fun g' e c he _ hc=>hoth g' e c (by rcases he with rfl | rfl <;> decide) hc
 ·subst hB;exact hput
end
theorem make_store (K:Nat) (hK:K≤20000) (w:World) :
  (Instr.makeSlice 146 (.int .i64 0) (.int .i64 (K:Int))).run Try.prog w=.ok (.slice (some ⟨w.heap.size,0,none⟩) 0 K) (w.alloc (.cells (rep K (.int .u8 0)) 5)):=by
 obtain ⟨i,hi,hz,h1,hb⟩:=info_parts byte_info
 have hr:=run_make (P:=Try.prog) w 146 5 i _ Try.underlying146 hi hz .i64 .i64 0 K (by omega) (by omega) (by rw [hb];omega) (by omega)
 simp only [Int.toNat_natCast,Int.toNat_zero,h1,Nat.mul_one,Value.cells] at hr
 rw [hr]
 have he:madeCells #[.int .u8 0] K=rep K (.int .u8 0):=by
  have:=toList_madeCells_one (.int .u8 0) K
  rw [rep,← this]
 rw [he]
theorem Blk.two_away {w:World} {G:Nat} {t:TypeId} {cs:List Value} (h:Blk w (G + 1) t cs) (x y:Value):Blk ((w.setCell ⟨G,0,none⟩ x).setCell ⟨G,1,none⟩ y) (G + 1) t cs:=(h.away (by omega) 0 x).away (by omega) 1 y
theorem Blk.two_away3 {w:World} {G:Nat} {t:TypeId} {cs:List Value} (h:Blk w (G + 3) t cs) (x y:Value):Blk ((w.setCell ⟨G,0,none⟩ x).setCell ⟨G,1,none⟩ y) (G + 3) t cs:=(h.away (by omega) 0 x).away (by omega) 1 y
theorem ptwin_any (A:Option Addr) (n c:Nat) (A':Option Addr) (n' c':Nat) (S:List Sec) (C:List Pnd) (w:World) (hq:Dsk w A n c A' n' c' S C) (hs:SmallD S C) :
  Calls Try.prog 69 #[diskV A n c A' n' c'] w fun e w'=>∃ B d B' d',e=.returned (diskV B n d B' n' d')∧OwnDsk w' w.heap.size B n d B' n' d' S C∧Below w.heap.size w w':=by
 have hl:=hq.secs.len
 have hl':=hq.pnds.len
 have hn:n≤300:=by rw [← hl];exact hs.secs
 have hn':n'≤100:=by rw [← hl'];exact hs.pnds
 obtain ⟨b1,b2,hb⟩:=boxes2 w A n c A' n' c' none 0 0 none 0 0
 obtain ⟨w1,hw1⟩:∃ w1,w1=(w.alloc (.cells #[.slice A n c,.slice A' n' c'] 56)).alloc (.cells #[.slice none 0 0,.slice none 0 0] 56):=⟨_,rfl⟩
 have hsz1:w1.heap.size=w.heap.size + 2:=by rw [hw1];simp
 rw [← hw1] at b1 b2 hb
 obtain ⟨K,hK⟩:∃ K,K=(n + n') * 32:=⟨_,rfl⟩
 have hK2:((n:Int) + (n':Int)) * 32=(K:Int):=by rw [hK];simp
 have hK1:K≤20000:=by omega
 have hwr1:IntKind.i64.wrap ((n:Int) + (n':Int))=(n:Int) + (n':Int):=Lib.wrap_i64_small (n + n') (by omega)
 have hwr2:IntKind.i64.wrap (K:Int)=(K:Int):=Lib.wrap_i64_small K (by omega)
 have hmk:=make_store K hK1 w1
 obtain ⟨w2,hw2⟩:∃ w2,w2=w1.alloc (.cells (rep K (.int .u8 0)) 5):=⟨_,rfl⟩
 rw [← hw2,hsz1] at hmk
 have hsz2:w2.heap.size=w.heap.size + 3:=by rw [hw2];simp [hsz1]
 have hmem:w2.ownsRow w.heap.size 5 1 (.slice (some ⟨w.heap.size + 2,0,none⟩) 0 K) 0 (ints .u8 []):=by
  refine ⟨by simp [ints],.inr ⟨w.heap.size + 2,K,rep K (.int .u8 0),rfl,by omega,?_,Nat.zero_le _,Nat.le_trans hK1 (by decide),by simp [rep],by simp [ints]⟩⟩
  rw [hw2,← hsz1]
  exact heap_alloc_new w1 _
 have hb12:Below w1.heap.size w1 w2:=by rw [hw2];exact (Below.refl _ _).alloc (Nat.le_refl _) _
 obtain ⟨w3,hw3⟩:∃ w3,w3=w2.alloc (.cells #[.slice (some ⟨w.heap.size + 2,0,none⟩) 0 K] 146):=⟨_,rfl⟩
 have hb23:Below w2.heap.size w2 w3:=by rw [hw3];exact (Below.refl _ _).alloc (Nat.le_refl _) _
 have hsz3:w3.heap.size=w.heap.size + 4:=by rw [hw3];simp [hsz2]
 have hb13:Below w1.heap.size w1 w3:=hb12.trans (hb23.mono hb12.size)
 have x1:Blk w3 w.heap.size 56 [.slice A n c,.slice A' n' c']:=b1.below hb13 b1.lt
 have x2:Blk w3 (w.heap.size + 1) 56 [.slice none 0 0,.slice none 0 0]:=b2.below hb13 b2.lt
 have x3:Blk w3 (w.heap.size + 3) 146 [.slice (some ⟨w.heap.size + 2,0,none⟩) 0 K]:=by
  rw [hw3,← hsz2];exact Blk.new w2 146 _
 have hmem3:=owns_below hmem hb23
 have hb03:Below w.heap.size w w3:=hb.trans (hb13.mono hb.size)
 have HQ:=hq.below hb03
 have q0:=b1.cell 0
 have q1:=b1.cell 1
 have r0:=x1.cell 0
 have r1:=x1.cell 1
 simp only [gcZ,gcS] at q0 q1 r0 r1
 have B3:=Lh hb03
 have X1:=Lh x1
 have X2:=Lh x2
 have X3:=Lh x3
 have MEM:=Lh hmem3
 have H:=Lh hq
 have HQ:=Lh HQ
 have SM:=Lh hs
 rw [hw1] at hmk
 clear hw1 hw2 hK hq hs hb hb12 hb23 hb13 x1 x2 x3 hmem hmem3 hb03 hl hl' b1 b2
 go_enter Try.func69,Try.ntmps69
 go_upto_region 2 with fail
 rw [← hw3]
 clear hw3 hmk hK2 hwr1 hwr2 q0 q1
 have CS:=Lh (cloneSecs_any A n c S w w3.drew H.out.secs (below_drewN B3.out 1) (by omega))
 have CP:=Lh (fun w4 (hb:Below w3.heap.size w3 w4)=>clonePnds_any A' n' c' C w w4 H.out.pnds (B3.out.trans (hb.mono B3.out.size)) (by omega))
 go_cut [] from 4 (fun wx=>∃ B d B' d' vs vs',Blk wx w.heap.size 56 [.slice B n d,.slice B' n' d']∧wx.ownsRow w.heap.size 86 2 (.slice B n d) n vs∧Secs_cells w n S vs∧wx.ownsRow w.heap.size 33 2 (.slice B' n' d') n' vs'∧Pnds_cells w n' C vs' ∧
   Blk wx (w.heap.size + 1) 56 [.slice none 0 0,.slice none 0 0]∧Blk wx (w.heap.size + 3) 146 [.slice (some ⟨w.heap.size + 2,0,none⟩) 0 K]∧wx.ownsRow w.heap.size 5 1 (.slice (some ⟨w.heap.size + 2,0,none⟩) 0 K) 0 (ints .u8 [])∧Below w.heap.size w wx)
 case first =>
  go_region_with ((first | (go_at_call 91;refine CS.out.mono ?_;rintro e w4 ⟨B,d,vs,rfl,hown4,hcs4,hb4⟩;have hb34:Below w3.heap.size w3 w4:=(below_drewN (Below.refl _ _) 1).trans hb4;have r2:=((X1.out.below hb34 X1.out.lt).cell 0);have r3:=((X1.out.below hb34 X1.out.lt).cell 1);simp only [gcZ,gcS] at r2 r3;have O4:=Lh hown4;have CS4:=Lh hcs4;have CP4:=Lh (CP.out w4 hb34);have B34:=Lh hb34;clear hown4 hcs4 hb4 hb34) | (go_at_call 92;refine CP4.out.mono ?_;rintro e w5 ⟨B',d',vs',rfl,hown5,hcs5,hb5⟩;have B35:=Lh (B34.out.trans (hb5.mono B34.out.size));have O4':=Lh (owns_below O4.out hb5);have X5:=Lh (X1.out.below B35.out X1.out.lt);have r4:=X5.out.cell 0;have r5:=X5.out.cell 1;have f4:=X5.out.free 0;have f5:=X5.out.free 1;simp only [gcZ,gcS] at r4 r5;have O5:=Lh hown5;have CS5:=Lh hcs5;have B45:=Lh hb5;clear hown5 hcs5 hb5)))
  all_goals (
   go_wp2_with fail
   go_meet
   have y1:Blk ((w5.setCell ⟨w.heap.size,0,none⟩ (.slice B n d)).setCell ⟨w.heap.size,1,none⟩ (.slice B' n' d')) w.heap.size 56 [.slice B n d,.slice B' n' d']:=X5.out.two _ _
   have hoth:∀ g,g≠w.heap.size→((w5.setCell ⟨w.heap.size,0,none⟩ (.slice B n d)).setCell ⟨w.heap.size,1,none⟩ (.slice B' n' d')).heap[g]?=w5.heap[g]?:=fun g hg=>(Below.heap_setCell _ _ _ g hg).trans (Below.heap_setCell _ _ _ g hg)
   have hkeep:∀ {b:Nat} {e:TypeId} {s:Nat} {v:Value} {k:Nat} {xs:List Value},e≠56→w5.ownsRow b e s v k xs→((w5.setCell ⟨w.heap.size,0,none⟩ (.slice B n d)).setCell ⟨w.heap.size,1,none⟩ (.slice B' n' d')).ownsRow b e s v k xs:=fun he hx =>
    owns_keep hx fun g cs _ hc=>hoth g (fun e2=>by
     subst e2
     have:=X5.out
     unfold Blk at this
     rw [this] at hc
     simp at hc
     exact he hc.2.symm)
   have hsz4:w.heap.size≤w3.drew.heap.size:=by show w.heap.size≤w3.heap.size;omega
   have hb5:Below w.heap.size w w5:=B3.out.trans (B35.out.mono (by omega))
   exact ⟨B,d,B',d',vs,vs',y1,hkeep (by decide) (owns_base O4'.out hsz4),CS4.out,hkeep (by decide) (owns_base O5.out (Nat.le_trans (show w.heap.size≤w3.heap.size by omega) B34.out.size)),CS5.out,
    (X2.out.below B35.out X2.out.lt).two_away _ _,(X3.out.below B35.out X3.out.lt).two_away3 _ _,hkeep (by decide) (owns_below MEM.out B35.out),below_two hb5 (Nat.le_refl _) _ _⟩)
 case rest =>
  obtain ⟨B,d,B',d',vs,vs',x1,o1,s1,o2,s2,x2,x3,mem,hb⟩:=hcut
  have hT0:TwS w wc B n d B' n' d' S C (w.heap.size + 2) 0 K [] 0 0:=⟨SecsTo.start _ _ o1 (Nat.le_refl _) s1,PndsTo.start _ _ o2 (Nat.le_refl _) s2,x1,x2,x3,mem,hb⟩
  have q0:=x1.cell 0
  simp only [gcZ] at q0
  have T0:=Lh hT0
  clear x1 o1 s1 o2 s2 x2 x3 mem hb hT0 X1 X2 X3 MEM r0 r1 CS CP HQ
  go_wp2
  go_loopw [26] (fun i wr=>∃ k:Nat,k≤n∧i=.int .i64 k∧∃ M m cm mem,m≤100 * k∧TwS w wr B n d B' n' d' S C M m cm mem k 0) (fun i _=>n - (intOf i).toNat)
  case atStart=>exact ⟨0,Nat.zero_le _,rfl,w.heap.size + 2,0,K,[],Nat.zero_le _,T0.out⟩
  case round =>
   obtain ⟨k,hk,rfl,M,m,cm,mem,hm,hT⟩:=hrel
   have q0:=hT.box.cell 0
   simp only [gcZ] at q0
   have T:=Lh hT
   by_cases hkn:k < n
   ·have hki:(k:Int) < (n:Int):=by omega
    obtain ⟨g,Ai,ni,ci,e,hbg,hc,hf,ha,_⟩:=hT.secs.get hkn
    have EB:=Lh e
    subst e
    obtain ⟨x,hx⟩:∃ x,x=(S.getD k (false,[])).2:=⟨_,rfl⟩
    have hlx:=ha.len
    have hsm:=SM.out.sec_len k
    rw [← hx] at ha hlx hsm
    have HX:=Lh hx
    have hwk:IntKind.i64.wrap (k:Int)=(k:Int):=Lib.wrap_i64_small k (by omega)
    have KC:=Lh (keep_any w.heap.size (w.heap.size + 3) M m cm mem Ai ni ci x wr.drew (hT.on (below_drewN (Below.refl _ _) 1)).store (hT.on (below_drewN (Below.refl _ _) 1)).mem ((ha.below hT.below).below (below_drewN (Below.refl _ _) 1)) (by omega) (by omega))
    clear hT ha hx
    go_wp2
    go_region_with (go_at_call 93;refine KC.out.mono ?_;rintro e w2 ⟨A2,M',cm',rfl,hk2⟩;have T2:=Lh ((T.out.on (below_drewN (Below.refl _ _) 1)).kept hk2);have s0:=T2.out.box.cell 0;simp only [gcZ] at s0;obtain ⟨g2,_,_,_,e2,_,hc2,hf2,_,_⟩:=T2.out.secs.get hkn;cases e2;have X2:=Lh hk2.txt;clear hk2)
    all_goals (
     go_wp2
     go_roundw
     case rel =>
      refine ⟨k + 1,by omega,by go_num,M',m + ni,cm',mem ++ x,by omega,T2.out.put_sec rfl hkn ?_⟩
      rw [← HX.out]
      exact X2.out
     case measure=>simp [intOf];omega)
   ·obtain rfl:n=k:=by omega
    have q1:=hT.box.cell 1
    simp only [gcZ,gcS] at q1
    clear hT q0
    go_wp2
    go_loopw [45] (fun i wr=>∃ k:Nat,k≤n'∧i=.int .i64 k∧∃ M m cm mem,m≤30000 + 100 * k∧TwS w wr B n d B' n' d' S C M m cm mem n k) (fun i _=>n' - (intOf i).toNat)
    case atStart=>exact ⟨0,Nat.zero_le _,rfl,M,m,cm,mem,by omega,T.out⟩
    case round =>
     obtain ⟨k,hk,rfl,M,m,cm,mem,hm,hT⟩:=hrel
     have q1:=hT.box.cell 1
     simp only [gcZ,gcS] at q1
     have T:=Lh hT
     by_cases hkn:k < n'
     ·have hki:(k:Int) < (n':Int):=by omega
      obtain ⟨g,Ai,ni,ci,e,hbg,hc,hf,ha,_⟩:=hT.pnds.get hkn
      have EB:=Lh e
      subst e
      obtain ⟨x,hx⟩:∃ x,x=(C.getD k (0,[])).2:=⟨_,rfl⟩
      have hlx:=ha.len
      have hsm:=SM.out.pnd_len k
      rw [← hx] at ha hlx hsm
      have HX:=Lh hx
      have hwk:IntKind.i64.wrap (k:Int)=(k:Int):=Lib.wrap_i64_small k (by omega)
      have KC:=Lh (keep_any w.heap.size (w.heap.size + 3) M m cm mem Ai ni ci x wr.drew (hT.on (below_drewN (Below.refl _ _) 1)).store (hT.on (below_drewN (Below.refl _ _) 1)).mem ((ha.below hT.below).below (below_drewN (Below.refl _ _) 1)) (by omega) (by omega))
      clear hT ha hx
      go_wp2
      go_region_with (go_at_call 93;refine KC.out.mono ?_;rintro e w2 ⟨A2,M',cm',rfl,hk2⟩;have T2:=Lh ((T.out.on (below_drewN (Below.refl _ _) 1)).kept hk2);have s1:=T2.out.box.cell 1;simp only [gcZ,gcS] at s1;obtain ⟨g2,_,_,_,e2,_,hc2,hf2,_,_⟩:=T2.out.pnds.get hkn;cases e2;have X2:=Lh hk2.txt;clear hk2)
      all_goals (
       go_wp2
       go_roundw
       case rel =>
        refine ⟨k + 1,by omega,by go_num,M',m + ni,cm',mem ++ x,by omega,T2.out.put_pnd rfl hkn ?_⟩
        rw [← HX.out]
        exact X2.out
       case measure=>simp [intOf];omega)
     ·obtain rfl:n'=k:=by omega
      have q0:=hT.box.cell 0
      simp only [gcZ] at q0
      have p0:=hT.res.cell 0
      have p1:=hT.res.cell 1
      have g0:=hT.res.free 0
      have g1:=hT.res.free 1
      simp only [gcZ,gcS] at p0 p1
      have OD:=Lh (show OwnDsk wr w.heap.size B n d B' n' d' S C from ⟨hT.secs.done (Nat.le_refl _) H.out.secs.len H.out.secs.byte,hT.pnds.done (Nat.le_refl _) H.out.pnds.len H.out.pnds.byte⟩)
      have R2:=Lh hT.res
      have BB:=Lh hT.below
      clear hT
      go_wp2
      have z:=R2.out.two (.slice B n d) (.slice B' n' d')
      have z0:=z.cell 0
      have z1:=z.cell 1
      simp only [gcZ,gcS] at z0 z1
      have O3:=OD.out.two R2.out (.slice B n d) (.slice B' n' d')
      have B3:=below_two BB.out (show w.heap.size≤w.heap.size + 1 by omega) (.slice B n d) (.slice B' n' d')
      refine bodyPost_ret (v:=diskV B n d B' n' d') ?_ rfl ⟨B,d,B',d',rfl,O3,B3⟩
      clear q0 q1 p0 p1 g0 g1
      simp [results,Try.f69,go_sem,z0,z1]
theorem noughts_out (w:World):Calls Try.prog 95 #[] w fun e w'=>∃ g,e=.returned (.slice (some ⟨g,0,none⟩) 32 32)∧w'.ownsRow w.heap.size 5 1 (.slice (some ⟨g,0,none⟩) 32 32) 32 (ints .u8 noughts)∧Below w.heap.size w w' :=
 (noughts_any w).mono fun e w' ⟨h1,h2⟩=>⟨_,h1,by rw [h2];exact nown32 w,by rw [h2];exact (Below.refl _ _).alloc (Nat.le_refl _) _⟩
theorem Blk.six {w:World} {g:Nat} {t:TypeId} {a0 a1 a2 a3 a4 a5:Value} (h:Blk w g t [a0,a1,a2,a3,a4,a5]) (b0 b1 b2 b3 b4 b5:Value):Blk ((((((w.setCell ⟨g,0,none⟩ b0).setCell ⟨g,1,none⟩ b1).setCell ⟨g,2,none⟩ b2).setCell ⟨g,3,none⟩ b3).setCell ⟨g,4,none⟩ b4).setCell ⟨g,5,none⟩ b5) g t [b0,b1,b2,b3,b4,b5]:=((((((h.set 0 b0).set 1 b1).set 2 b2).set 3 b3).set 4 b4).set 5 b5)
theorem owns_six {w:World} {e t:TypeId} {base g s:Nat} {v:Value} {k:Nat} {xs:List Value} {a0 a1 a2 a3 a4 a5:Value} (ho:w.ownsRow base e s v k xs) (h:Blk w g t [a0,a1,a2,a3,a4,a5]) (ht:t≠e) (b0 b1 b2 b3 b4 b5:Value):((((((w.setCell ⟨g,0,none⟩ b0).setCell ⟨g,1,none⟩ b1).setCell ⟨g,2,none⟩ b2).setCell ⟨g,3,none⟩ b3).setCell ⟨g,4,none⟩ b4).setCell ⟨g,5,none⟩ b5).ownsRow base e s v k xs:=(owns_other_box (owns_other_box (owns_other_box (owns_other_box (owns_other_box (owns_other_box ho h ht 0 b0) (h.set 0 b0) ht 1 b1) ((h.set 0 b0).set 1 b1) ht 2 b2) (((h.set 0 b0).set 1 b1).set 2 b2) ht 3 b3) ((((h.set 0 b0).set 1 b1).set 2 b2).set 3 b3) ht 4 b4) (((((h.set 0 b0).set 1 b1).set 2 b2).set 3 b3).set 4 b4) ht 5 b5)
theorem below_six {B g:Nat} {w0 w:World} (h:Below B w0 w) (hg:B≤g) (b0 b1 b2 b3 b4 b5:Value):Below B w0 ((((((w.setCell ⟨g,0,none⟩ b0).setCell ⟨g,1,none⟩ b1).setCell ⟨g,2,none⟩ b2).setCell ⟨g,3,none⟩ b3).setCell ⟨g,4,none⟩ b4).setCell ⟨g,5,none⟩ b5):=((((((h.setCell (p:=⟨g,0,none⟩) hg b0).setCell (p:=⟨g,1,none⟩) hg b1).setCell (p:=⟨g,2,none⟩) hg b2).setCell (p:=⟨g,3,none⟩) hg b3).setCell (p:=⟨g,4,none⟩) hg b4).setCell (p:=⟨g,5,none⟩) hg b5)
theorem left0 (A:Option Addr) (n c:Nat) (b:Bool) (t:Int) (A':Option Addr) (n' c':Nat) (w:World) :
  Calls Try.prog 73 #[.agg #[.slice A n c,.bool b],.agg #[.int .i64 t,.slice A' n' c'],.int .u8 0] w fun e w'=>e=.returned (.agg #[.slice A n c,.bool b])∧Below w.heap.size w w':=by
 obtain ⟨w1,hw1⟩:∃ w1,w1=((w.alloc (.cells #[.slice A n c,.bool b] 86)).alloc (.cells #[.int .i64 t,.slice A' n' c'] 33)).alloc (.cells #[.slice none 0 0,.bool false] 86):=⟨_,rfl⟩
 have hb:Below w.heap.size w w1:=by rw [hw1];exact (((Below.refl _ _).alloc (Nat.le_refl _) _).alloc (by simp) _).alloc (by simp;omega) _
 have b0:Blk w1 w.heap.size 86 [.slice A n c,.bool b]:=by rw [hw1];exact ((Blk.new w 86 [.slice A n c,.bool b]).grown (World.grownBy_alloc _ _ none) (by simp)).grown (World.grownBy_alloc _ _ none) (by simp)
 have b1:Blk w1 (w.heap.size + 1) 33 [.int .i64 t,.slice A' n' c']:=by
  have:=Blk.new (w.alloc (.cells #[.slice A n c,.bool b] 86)) 33 [.int .i64 t,.slice A' n' c']
  rw [World.size_alloc] at this
  rw [hw1];exact this.grown (World.grownBy_alloc _ _ none) (by simp)
 have b2:Blk w1 (w.heap.size + 2) 86 [.slice none 0 0,.bool false]:=by
  have:=Blk.new ((w.alloc (.cells #[.slice A n c,.bool b] 86)).alloc (.cells #[.int .i64 t,.slice A' n' c'] 33)) 86 [.slice none 0 0,.bool false]
  rw [World.size_alloc,World.size_alloc] at this
  rw [hw1];exact this
 have hsz:w1.heap.size=w.heap.size + 3:=by rw [hw1];simp
 have B0:=Lh b0
 have B1:=Lh b1
 have B2:=Lh b2
 have HB:=Lh hb
 have hle:w.heap.size≤w1.heap.size:=by omega
 clear hb b0 b1 b2 hsz
 go_enter Try.func73,Try.ntmps73
 go_upto_region 1 with fail
 rw [← hw1]
 clear hw1
 have keepX:∀ wx,Below w1.heap.size w1 wx→wx.cell? ⟨w.heap.size,0,none⟩=some (.slice A n c)∧wx.cell? ⟨w.heap.size,1,none⟩=some (.bool b)∧wx.cell? ⟨w.heap.size + 1,1,none⟩=some (.slice A' n' c'):=fun wx hx =>
  ⟨(B0.out.below hx B0.out.lt).cell 0,(B0.out.below hx B0.out.lt).cell 1,(B1.out.below hx B1.out.lt).cell 1⟩
 have hcur:Below w1.heap.size w1 w1.drew:=below_drewN (Below.refl _ _) 1
 have hHeld:=keepX _ hcur
 refine wp_region_to 8 (fun w'=>w'.cell? ⟨w.heap.size,0,none⟩=some (.slice A n c)∧w'.cell? ⟨w.heap.size,1,none⟩=some (.bool b)∧w'.cell? ⟨w.heap.size + 1,1,none⟩=some (.slice A' n' c')) (by kernel_rfl) ?_
 refine wpAnyG_take (i:=0) (v:=?_) rfl (by kernel_rfl) (by kernel_rfl) (by kernel_rfl) (by kernel_rfl) (by kernel_rfl) rfl (fun _ _ _ h=>h) (Or.inl ⟨by rfl,?_⟩) hHeld ?_
 rotate_left
 ·(intro w' hSw;(try dsimp only at hSw);go_simp;(try with_reducible rfl))
 simp only [Act.put,stA]
 refine wpAnyG_take (i:=1) (v:=?_) rfl (by kernel_rfl) (by kernel_rfl) (by kernel_rfl) (by kernel_rfl) (by kernel_rfl) rfl (fun _ _ _ h=>h) (Or.inl ⟨by rfl,?_⟩) hHeld ?_
 rotate_left
 ·(intro w' hSw;(try dsimp only at hSw);go_simp;(try with_reducible rfl))
 simp only [Act.put]
 refine wpAnyG_take (i:=2) (v:=?_) rfl (by kernel_rfl) (by kernel_rfl) (by kernel_rfl) (by kernel_rfl) (by kernel_rfl) rfl (fun _ _ _ h=>h) (Or.inl ⟨by rfl,?_⟩) hHeld ?_
 rotate_left
 ·(intro w' hSw;(try dsimp only at hSw);go_simp;(try with_reducible rfl))
 simp only [Act.put]
 refine wpAnyG_take (i:=3) (v:=?_) rfl (by kernel_rfl) (by kernel_rfl) (by kernel_rfl) (by kernel_rfl) (by kernel_rfl) rfl (fun _ _ _ h=>h) (Or.inl ⟨by rfl,?_⟩) hHeld ?_
 rotate_left
 ·(intro w' hSw;(try dsimp only at hSw);go_simp;(try with_reducible rfl))
 simp only [Act.put]
 refine wpAnyG_two (i:=4) (j:=7) (by kernel_rfl) rfl rfl (fun K hK=>?_) (fun K hK=>?_)
 ·go_simp
  go_at_call 95
  refine (noughts_out _).mono ?_
  rintro e w2 ⟨gN,rfl,hown,hbN⟩
  have hown:=owns_base hown (show w.heap.size≤w1.drew.heap.size from hle)
  have hcur:=hcur.trans (hbN.mono hcur.size)
  refine hK.out _ _ (fun _=>keepX _ hcur) (fun hHeld=>?_)
  have hHeld:=hHeld (by decide)
  clear hK K
  try simp only [Act.put,stA,scZ,scS]
  refine wpAnyG_take (i:=5) (v:=?_) rfl (by kernel_rfl) (by kernel_rfl) (by kernel_rfl) (by kernel_rfl) (by kernel_rfl) rfl (fun _ _ _ h=>h) (Or.inl ⟨by rfl,?_⟩) hHeld ?_
  rotate_left
  ·(intro w' hSw;(try dsimp only at hSw);go_simp;(try with_reducible rfl))
  simp only [Act.put,stA]
  refine wpAnyG_take (i:=6) (v:=?_) rfl (by kernel_rfl) (by kernel_rfl) (by kernel_rfl) (by kernel_rfl) (by kernel_rfl) rfl (fun _ _ _ h=>h) (Or.inl ⟨by rfl,?_⟩) hHeld ?_
  rotate_left
  ·(intro w' hSw;(try dsimp only at hSw);go_simp;(try with_reducible rfl))
  simp only [Act.put]
  refine wpAnyG_one (i:=7) (by kernel_rfl) rfl (fun K hK=>?_)
  go_simp
  have hcurA:=hcur.alloc hcur.size (.cells #[.slice none 0 0,.bool false,.slice none 0 0,.bool false,.slice none 0 0,.bool false] 151)
  refine hK.out _ _ (fun _=>keepX _ hcurA) (fun hHeld=>?_)
  have hHeld:=hHeld (by decide)
  clear hK K
  try simp only [Act.put,stA,scZ,scS]
  refine wpAnyG_one (i:=8) (by kernel_rfl) rfl (fun K hK=>?_)
  go_simp
  refine hK.out _ _ (fun h=>absurd rfl h) (fun _=>?_)
  clear hK K
  refine wpAnyG_done (by kernel_rfl) ?_ _
  have hx:=Blk.new w2 151 [.slice A n c,.bool b,.slice A' n' c',.bool false,.slice (some ⟨gN,0,none⟩) 32 32,.bool true]
  have hown:=owns_below hown ((Below.refl w2.heap.size w2).alloc (Nat.le_refl _) (.cells #[.slice A n c,.bool b,.slice A' n' c',.bool false,.slice (some ⟨gN,0,none⟩) 32 32,.bool true] 151))
  have hcur:=hcur.alloc hcur.size (.cells #[.slice A n c,.bool b,.slice A' n' c',.bool false,.slice (some ⟨gN,0,none⟩) 32 32,.bool true] 151)
  clear hcurA
  have hr:=B2.out.below hcur B2.out.lt
  have y0:=hx.cell 0
  have y1:=hx.cell 1
  have g0:=hr.free 0
  have g1:=hr.free 1
  have h0:=hr.cell 0
  have h1:=hr.cell 1
  simp only [gcZ,gcS] at y0 y1 h0 h1
  have z:=hr.two (.slice A n c) (.bool b)
  have zz0:=z.cell 0
  have zz1:=z.cell 1
  simp only [gcZ,gcS] at zz0 zz1
  have B9:=Lh (below_two (HB.out.trans (hcur.mono HB.out.size)) (show w.heap.size≤w.heap.size + 2 by omega) (.slice A n c) (.bool b))
  have OW:=Lh (owns_other_box (owns_other_box hown hr (by decide) 0 (.slice A n c)) (hr.set 0 (.slice A n c)) (by decide) 1 (.bool b))
  clear hx hown hr hcur z hHeld keepX
  go_wp2
  refine bodyPost_ret (v:=.agg #[.slice A n c,.bool b]) ?_ rfl ⟨rfl,B9.out⟩
  clear y0 y1 g0 g1 h0 h1
  simp [results,Try.f73,go_sem,zz0,zz1]
 ·go_simp
  have hZ0:Blk (w1.drew.alloc (.cells #[.slice none 0 0,.bool false,.slice none 0 0,.bool false,.slice none 0 0,.bool false] 151)) w1.heap.size 151 [.slice none 0 0,.bool false,.slice none 0 0,.bool false,.slice none 0 0,.bool false]:=Blk.new w1.drew 151 [.slice none 0 0,.bool false,.slice none 0 0,.bool false,.slice none 0 0,.bool false]
  have hcur:=hcur.alloc (show w1.heap.size≤w1.drew.heap.size from Nat.le_refl _) (.cells #[.slice none 0 0,.bool false,.slice none 0 0,.bool false,.slice none 0 0,.bool false] 151)
  refine hK.out _ _ (fun _=>keepX _ hcur) (fun hHeld=>?_)
  have hHeld:=hHeld (by decide)
  clear hK K
  try simp only [Act.put,stA,scZ,scS]
  refine wpAnyG_one (i:=4) (by kernel_rfl) rfl (fun K hK=>?_)
  go_simp
  go_at_call 95
  refine (noughts_out _).mono ?_
  rintro e w2 ⟨gN,rfl,hown,hbN⟩
  have hown:=owns_base hown (Nat.le_trans hle hcur.size)
  have hZ:=hZ0.below hbN hZ0.lt
  have hcur:=hcur.trans (hbN.mono hcur.size)
  have z0:=hZ.cell 0
  have f0:=hZ.free 0
  have z1:=hZ.cell 1
  have f1:=hZ.free 1
  have z2:=hZ.cell 2
  have f2:=hZ.free 2
  have z3:=hZ.cell 3
  have f3:=hZ.free 3
  have z4:=hZ.cell 4
  have f4:=hZ.free 4
  have z5:=hZ.cell 5
  have f5:=hZ.free 5
  simp only [gcZ,gcS] at z0 z1 z2 z3 z4 z5
  refine hK.out _ _ (fun _=>keepX _ hcur) (fun hHeld=>?_)
  have hHeld:=hHeld (by decide)
  clear hK K
  try simp only [Act.put,stA,scZ,scS]
  refine wpAnyG_take (i:=5) (v:=?_) rfl (by kernel_rfl) (by kernel_rfl) (by kernel_rfl) (by kernel_rfl) (by kernel_rfl) rfl (fun _ _ _ h=>h) (Or.inl ⟨by rfl,?_⟩) hHeld ?_
  rotate_left
  ·(intro w' hSw;(try dsimp only at hSw);go_simp;(try with_reducible rfl))
  simp only [Act.put,stA]
  refine wpAnyG_take (i:=6) (v:=?_) rfl (by kernel_rfl) (by kernel_rfl) (by kernel_rfl) (by kernel_rfl) (by kernel_rfl) rfl (fun _ _ _ h=>h) (Or.inl ⟨by rfl,?_⟩) hHeld ?_
  rotate_left
  ·(intro w' hSw;(try dsimp only at hSw);go_simp;(try with_reducible rfl))
  simp only [Act.put]
  refine wpAnyG_one (i:=8) (by kernel_rfl) rfl (fun K hK=>?_)
  go_simp
  refine hK.out _ _ (fun h=>absurd rfl h) (fun _=>?_)
  clear hK K
  refine wpAnyG_done (by kernel_rfl) ?_ _
  have hx:=hZ.six (.slice A n c) (.bool b) (.slice A' n' c') (.bool false) (.slice (some ⟨gN,0,none⟩) 32 32) (.bool true)
  have hown:=owns_six hown hZ (by decide) (.slice A n c) (.bool b) (.slice A' n' c') (.bool false) (.slice (some ⟨gN,0,none⟩) 32 32) (.bool true)
  have hcur:=below_six hcur (Nat.le_refl w1.heap.size) (.slice A n c) (.bool b) (.slice A' n' c') (.bool false) (.slice (some ⟨gN,0,none⟩) 32 32) (.bool true)
  clear hZ hZ0 z0 z1 z2 z3 z4 z5 f0 f1 f2 f3 f4 f5
  obtain ⟨wx,hwx⟩:∃ wx,wx=((((((w2.setCell ⟨w1.heap.size,0,none⟩ (.slice A n c)).setCell ⟨w1.heap.size,1,none⟩ (.bool b)).setCell ⟨w1.heap.size,2,none⟩ (.slice A' n' c')).setCell ⟨w1.heap.size,3,none⟩ (.bool false)).setCell ⟨w1.heap.size,4,none⟩ (.slice (some ⟨gN,0,none⟩) 32 32)).setCell ⟨w1.heap.size,5,none⟩ (.bool true)):=⟨_,rfl⟩
  rw [← hwx] at hx hown hcur
  rw [← hwx]
  clear hwx
  have hr:=B2.out.below hcur B2.out.lt
  have y0:=hx.cell 0
  have y1:=hx.cell 1
  have g0:=hr.free 0
  have g1:=hr.free 1
  have h0:=hr.cell 0
  have h1:=hr.cell 1
  simp only [gcZ,gcS] at y0 y1 h0 h1
  have z:=hr.two (.slice A n c) (.bool b)
  have zz0:=z.cell 0
  have zz1:=z.cell 1
  simp only [gcZ,gcS] at zz0 zz1
  have B9:=Lh (below_two (HB.out.trans (hcur.mono HB.out.size)) (show w.heap.size≤w.heap.size + 2 by omega) (.slice A n c) (.bool b))
  have OW:=Lh (owns_other_box (owns_other_box hown hr (by decide) 0 (.slice A n c)) (hr.set 0 (.slice A n c)) (by decide) 1 (.bool b))
  clear hx hown hr hcur z hHeld keepX
  go_wp2
  refine bodyPost_ret (v:=.agg #[.slice A n c,.bool b]) ?_ rfl ⟨rfl,B9.out⟩
  clear y0 y1 g0 g1 h0 h1
  simp [results,Try.f73,go_sem,zz0,zz1]
theorem left1 (A:Option Addr) (n c:Nat) (b:Bool) (t:Int) (A':Option Addr) (n' c':Nat) (w:World) :
  Calls Try.prog 73 #[.agg #[.slice A n c,.bool b],.agg #[.int .i64 t,.slice A' n' c'],.int .u8 1] w fun e w'=>e=.returned (.agg #[.slice A' n' c',.bool false])∧Below w.heap.size w w':=by
 obtain ⟨w1,hw1⟩:∃ w1,w1=((w.alloc (.cells #[.slice A n c,.bool b] 86)).alloc (.cells #[.int .i64 t,.slice A' n' c'] 33)).alloc (.cells #[.slice none 0 0,.bool false] 86):=⟨_,rfl⟩
 have hb:Below w.heap.size w w1:=by rw [hw1];exact (((Below.refl _ _).alloc (Nat.le_refl _) _).alloc (by simp) _).alloc (by simp;omega) _
 have b0:Blk w1 w.heap.size 86 [.slice A n c,.bool b]:=by rw [hw1];exact ((Blk.new w 86 [.slice A n c,.bool b]).grown (World.grownBy_alloc _ _ none) (by simp)).grown (World.grownBy_alloc _ _ none) (by simp)
 have b1:Blk w1 (w.heap.size + 1) 33 [.int .i64 t,.slice A' n' c']:=by
  have:=Blk.new (w.alloc (.cells #[.slice A n c,.bool b] 86)) 33 [.int .i64 t,.slice A' n' c']
  rw [World.size_alloc] at this
  rw [hw1];exact this.grown (World.grownBy_alloc _ _ none) (by simp)
 have b2:Blk w1 (w.heap.size + 2) 86 [.slice none 0 0,.bool false]:=by
  have:=Blk.new ((w.alloc (.cells #[.slice A n c,.bool b] 86)).alloc (.cells #[.int .i64 t,.slice A' n' c'] 33)) 86 [.slice none 0 0,.bool false]
  rw [World.size_alloc,World.size_alloc] at this
  rw [hw1];exact this
 have hsz:w1.heap.size=w.heap.size + 3:=by rw [hw1];simp
 have B0:=Lh b0
 have B1:=Lh b1
 have B2:=Lh b2
 have HB:=Lh hb
 have hle:w.heap.size≤w1.heap.size:=by omega
 clear hb b0 b1 b2 hsz
 go_enter Try.func73,Try.ntmps73
 go_upto_region 1 with fail
 rw [← hw1]
 clear hw1
 have keepX:∀ wx,Below w1.heap.size w1 wx→wx.cell? ⟨w.heap.size,0,none⟩=some (.slice A n c)∧wx.cell? ⟨w.heap.size,1,none⟩=some (.bool b)∧wx.cell? ⟨w.heap.size + 1,1,none⟩=some (.slice A' n' c'):=fun wx hx =>
  ⟨(B0.out.below hx B0.out.lt).cell 0,(B0.out.below hx B0.out.lt).cell 1,(B1.out.below hx B1.out.lt).cell 1⟩
 have hcur:Below w1.heap.size w1 w1.drew:=below_drewN (Below.refl _ _) 1
 have hHeld:=keepX _ hcur
 refine wp_region_to 8 (fun w'=>w'.cell? ⟨w.heap.size,0,none⟩=some (.slice A n c)∧w'.cell? ⟨w.heap.size,1,none⟩=some (.bool b)∧w'.cell? ⟨w.heap.size + 1,1,none⟩=some (.slice A' n' c')) (by kernel_rfl) ?_
 refine wpAnyG_take (i:=0) (v:=?_) rfl (by kernel_rfl) (by kernel_rfl) (by kernel_rfl) (by kernel_rfl) (by kernel_rfl) rfl (fun _ _ _ h=>h) (Or.inl ⟨by rfl,?_⟩) hHeld ?_
 rotate_left
 ·(intro w' hSw;(try dsimp only at hSw);go_simp;(try with_reducible rfl))
 simp only [Act.put,stA]
 refine wpAnyG_take (i:=1) (v:=?_) rfl (by kernel_rfl) (by kernel_rfl) (by kernel_rfl) (by kernel_rfl) (by kernel_rfl) rfl (fun _ _ _ h=>h) (Or.inl ⟨by rfl,?_⟩) hHeld ?_
 rotate_left
 ·(intro w' hSw;(try dsimp only at hSw);go_simp;(try with_reducible rfl))
 simp only [Act.put]
 refine wpAnyG_take (i:=2) (v:=?_) rfl (by kernel_rfl) (by kernel_rfl) (by kernel_rfl) (by kernel_rfl) (by kernel_rfl) rfl (fun _ _ _ h=>h) (Or.inl ⟨by rfl,?_⟩) hHeld ?_
 rotate_left
 ·(intro w' hSw;(try dsimp only at hSw);go_simp;(try with_reducible rfl))
 simp only [Act.put]
 refine wpAnyG_take (i:=3) (v:=?_) rfl (by kernel_rfl) (by kernel_rfl) (by kernel_rfl) (by kernel_rfl) (by kernel_rfl) rfl (fun _ _ _ h=>h) (Or.inl ⟨by rfl,?_⟩) hHeld ?_
 rotate_left
 ·(intro w' hSw;(try dsimp only at hSw);go_simp;(try with_reducible rfl))
 simp only [Act.put]
 refine wpAnyG_two (i:=4) (j:=7) (by kernel_rfl) rfl rfl (fun K hK=>?_) (fun K hK=>?_)
 ·go_simp
  go_at_call 95
  refine (noughts_out _).mono ?_
  rintro e w2 ⟨gN,rfl,hown,hbN⟩
  have hown:=owns_base hown (show w.heap.size≤w1.drew.heap.size from hle)
  have hcur:=hcur.trans (hbN.mono hcur.size)
  refine hK.out _ _ (fun _=>keepX _ hcur) (fun hHeld=>?_)
  have hHeld:=hHeld (by decide)
  clear hK K
  try simp only [Act.put,stA,scZ,scS]
  refine wpAnyG_take (i:=5) (v:=?_) rfl (by kernel_rfl) (by kernel_rfl) (by kernel_rfl) (by kernel_rfl) (by kernel_rfl) rfl (fun _ _ _ h=>h) (Or.inl ⟨by rfl,?_⟩) hHeld ?_
  rotate_left
  ·(intro w' hSw;(try dsimp only at hSw);go_simp;(try with_reducible rfl))
  simp only [Act.put,stA]
  refine wpAnyG_take (i:=6) (v:=?_) rfl (by kernel_rfl) (by kernel_rfl) (by kernel_rfl) (by kernel_rfl) (by kernel_rfl) rfl (fun _ _ _ h=>h) (Or.inl ⟨by rfl,?_⟩) hHeld ?_
  rotate_left
  ·(intro w' hSw;(try dsimp only at hSw);go_simp;(try with_reducible rfl))
  simp only [Act.put]
  refine wpAnyG_one (i:=7) (by kernel_rfl) rfl (fun K hK=>?_)
  go_simp
  have hcurA:=hcur.alloc hcur.size (.cells #[.slice none 0 0,.bool false,.slice none 0 0,.bool false,.slice none 0 0,.bool false] 151)
  refine hK.out _ _ (fun _=>keepX _ hcurA) (fun hHeld=>?_)
  have hHeld:=hHeld (by decide)
  clear hK K
  try simp only [Act.put,stA,scZ,scS]
  refine wpAnyG_one (i:=8) (by kernel_rfl) rfl (fun K hK=>?_)
  go_simp
  refine hK.out _ _ (fun h=>absurd rfl h) (fun _=>?_)
  clear hK K
  refine wpAnyG_done (by kernel_rfl) ?_ _
  have hx:=Blk.new w2 151 [.slice A n c,.bool b,.slice A' n' c',.bool false,.slice (some ⟨gN,0,none⟩) 32 32,.bool true]
  have hown:=owns_below hown ((Below.refl w2.heap.size w2).alloc (Nat.le_refl _) (.cells #[.slice A n c,.bool b,.slice A' n' c',.bool false,.slice (some ⟨gN,0,none⟩) 32 32,.bool true] 151))
  have hcur:=hcur.alloc hcur.size (.cells #[.slice A n c,.bool b,.slice A' n' c',.bool false,.slice (some ⟨gN,0,none⟩) 32 32,.bool true] 151)
  clear hcurA
  have hr:=B2.out.below hcur B2.out.lt
  have y0:=hx.cell 2
  have y1:=hx.cell 3
  have g0:=hr.free 0
  have g1:=hr.free 1
  have h0:=hr.cell 0
  have h1:=hr.cell 1
  simp only [gcZ,gcS] at y0 y1 h0 h1
  have z:=hr.two (.slice A' n' c') (.bool false)
  have zz0:=z.cell 0
  have zz1:=z.cell 1
  simp only [gcZ,gcS] at zz0 zz1
  have B9:=Lh (below_two (HB.out.trans (hcur.mono HB.out.size)) (show w.heap.size≤w.heap.size + 2 by omega) (.slice A' n' c') (.bool false))
  have OW:=Lh (owns_other_box (owns_other_box hown hr (by decide) 0 (.slice A' n' c')) (hr.set 0 (.slice A' n' c')) (by decide) 1 (.bool false))
  clear hx hown hr hcur z hHeld keepX
  go_wp2
  refine bodyPost_ret (v:=.agg #[.slice A' n' c',.bool false]) ?_ rfl ⟨rfl,B9.out⟩
  clear y0 y1 g0 g1 h0 h1
  simp [results,Try.f73,go_sem,zz0,zz1]
 ·go_simp
  have hZ0:Blk (w1.drew.alloc (.cells #[.slice none 0 0,.bool false,.slice none 0 0,.bool false,.slice none 0 0,.bool false] 151)) w1.heap.size 151 [.slice none 0 0,.bool false,.slice none 0 0,.bool false,.slice none 0 0,.bool false]:=Blk.new w1.drew 151 [.slice none 0 0,.bool false,.slice none 0 0,.bool false,.slice none 0 0,.bool false]
  have hcur:=hcur.alloc (show w1.heap.size≤w1.drew.heap.size from Nat.le_refl _) (.cells #[.slice none 0 0,.bool false,.slice none 0 0,.bool false,.slice none 0 0,.bool false] 151)
  refine hK.out _ _ (fun _=>keepX _ hcur) (fun hHeld=>?_)
  have hHeld:=hHeld (by decide)
  clear hK K
  try simp only [Act.put,stA,scZ,scS]
  refine wpAnyG_one (i:=4) (by kernel_rfl) rfl (fun K hK=>?_)
  go_simp
  go_at_call 95
  refine (noughts_out _).mono ?_
  rintro e w2 ⟨gN,rfl,hown,hbN⟩
  have hown:=owns_base hown (Nat.le_trans hle hcur.size)
  have hZ:=hZ0.below hbN hZ0.lt
  have hcur:=hcur.trans (hbN.mono hcur.size)
  have z0:=hZ.cell 0
  have f0:=hZ.free 0
  have z1:=hZ.cell 1
  have f1:=hZ.free 1
  have z2:=hZ.cell 2
  have f2:=hZ.free 2
  have z3:=hZ.cell 3
  have f3:=hZ.free 3
  have z4:=hZ.cell 4
  have f4:=hZ.free 4
  have z5:=hZ.cell 5
  have f5:=hZ.free 5
  simp only [gcZ,gcS] at z0 z1 z2 z3 z4 z5
  refine hK.out _ _ (fun _=>keepX _ hcur) (fun hHeld=>?_)
  have hHeld:=hHeld (by decide)
  clear hK K
  try simp only [Act.put,stA,scZ,scS]
  refine wpAnyG_take (i:=5) (v:=?_) rfl (by kernel_rfl) (by kernel_rfl) (by kernel_rfl) (by kernel_rfl) (by kernel_rfl) rfl (fun _ _ _ h=>h) (Or.inl ⟨by rfl,?_⟩) hHeld ?_
  rotate_left
  ·(intro w' hSw;(try dsimp only at hSw);go_simp;(try with_reducible rfl))
  simp only [Act.put,stA]
  refine wpAnyG_take (i:=6) (v:=?_) rfl (by kernel_rfl) (by kernel_rfl) (by kernel_rfl) (by kernel_rfl) (by kernel_rfl) rfl (fun _ _ _ h=>h) (Or.inl ⟨by rfl,?_⟩) hHeld ?_
  rotate_left
  ·(intro w' hSw;(try dsimp only at hSw);go_simp;(try with_reducible rfl))
  simp only [Act.put]
  refine wpAnyG_one (i:=8) (by kernel_rfl) rfl (fun K hK=>?_)
  go_simp
  refine hK.out _ _ (fun h=>absurd rfl h) (fun _=>?_)
  clear hK K
  refine wpAnyG_done (by kernel_rfl) ?_ _
  have hx:=hZ.six (.slice A n c) (.bool b) (.slice A' n' c') (.bool false) (.slice (some ⟨gN,0,none⟩) 32 32) (.bool true)
  have hown:=owns_six hown hZ (by decide) (.slice A n c) (.bool b) (.slice A' n' c') (.bool false) (.slice (some ⟨gN,0,none⟩) 32 32) (.bool true)
  have hcur:=below_six hcur (Nat.le_refl w1.heap.size) (.slice A n c) (.bool b) (.slice A' n' c') (.bool false) (.slice (some ⟨gN,0,none⟩) 32 32) (.bool true)
  clear hZ hZ0 z0 z1 z2 z3 z4 z5 f0 f1 f2 f3 f4 f5
  obtain ⟨wx,hwx⟩:∃ wx,wx=((((((w2.setCell ⟨w1.heap.size,0,none⟩ (.slice A n c)).setCell ⟨w1.heap.size,1,none⟩ (.bool b)).setCell ⟨w1.heap.size,2,none⟩ (.slice A' n' c')).setCell ⟨w1.heap.size,3,none⟩ (.bool false)).setCell ⟨w1.heap.size,4,none⟩ (.slice (some ⟨gN,0,none⟩) 32 32)).setCell ⟨w1.heap.size,5,none⟩ (.bool true)):=⟨_,rfl⟩
  rw [← hwx] at hx hown hcur
  rw [← hwx]
  clear hwx
  have hr:=B2.out.below hcur B2.out.lt
  have y0:=hx.cell 2
  have y1:=hx.cell 3
  have g0:=hr.free 0
  have g1:=hr.free 1
  have h0:=hr.cell 0
  have h1:=hr.cell 1
  simp only [gcZ,gcS] at y0 y1 h0 h1
  have z:=hr.two (.slice A' n' c') (.bool false)
  have zz0:=z.cell 0
  have zz1:=z.cell 1
  simp only [gcZ,gcS] at zz0 zz1
  have B9:=Lh (below_two (HB.out.trans (hcur.mono HB.out.size)) (show w.heap.size≤w.heap.size + 2 by omega) (.slice A' n' c') (.bool false))
  have OW:=Lh (owns_other_box (owns_other_box hown hr (by decide) 0 (.slice A' n' c')) (hr.set 0 (.slice A' n' c')) (by decide) 1 (.bool false))
  clear hx hown hr hcur z hHeld keepX
  go_wp2
  refine bodyPost_ret (v:=.agg #[.slice A' n' c',.bool false]) ?_ rfl ⟨rfl,B9.out⟩
  clear y0 y1 g0 g1 h0 h1
  simp [results,Try.f73,go_sem,zz0,zz1]
theorem left2 (A:Option Addr) (n c:Nat) (b:Bool) (t:Int) (A':Option Addr) (n' c':Nat) (w:World) :
  Calls Try.prog 73 #[.agg #[.slice A n c,.bool b],.agg #[.int .i64 t,.slice A' n' c'],.int .u8 2] w fun e w'=>∃ g,e=.returned (.agg #[.slice (some ⟨g,0,none⟩) 32 32,.bool true])∧w'.ownsRow w.heap.size 5 1 (.slice (some ⟨g,0,none⟩) 32 32) 32 (ints .u8 noughts)∧Below w.heap.size w w':=by
 obtain ⟨w1,hw1⟩:∃ w1,w1=((w.alloc (.cells #[.slice A n c,.bool b] 86)).alloc (.cells #[.int .i64 t,.slice A' n' c'] 33)).alloc (.cells #[.slice none 0 0,.bool false] 86):=⟨_,rfl⟩
 have hb:Below w.heap.size w w1:=by rw [hw1];exact (((Below.refl _ _).alloc (Nat.le_refl _) _).alloc (by simp) _).alloc (by simp;omega) _
 have b0:Blk w1 w.heap.size 86 [.slice A n c,.bool b]:=by rw [hw1];exact ((Blk.new w 86 [.slice A n c,.bool b]).grown (World.grownBy_alloc _ _ none) (by simp)).grown (World.grownBy_alloc _ _ none) (by simp)
 have b1:Blk w1 (w.heap.size + 1) 33 [.int .i64 t,.slice A' n' c']:=by
  have:=Blk.new (w.alloc (.cells #[.slice A n c,.bool b] 86)) 33 [.int .i64 t,.slice A' n' c']
  rw [World.size_alloc] at this
  rw [hw1];exact this.grown (World.grownBy_alloc _ _ none) (by simp)
 have b2:Blk w1 (w.heap.size + 2) 86 [.slice none 0 0,.bool false]:=by
  have:=Blk.new ((w.alloc (.cells #[.slice A n c,.bool b] 86)).alloc (.cells #[.int .i64 t,.slice A' n' c'] 33)) 86 [.slice none 0 0,.bool false]
  rw [World.size_alloc,World.size_alloc] at this
  rw [hw1];exact this
 have hsz:w1.heap.size=w.heap.size + 3:=by rw [hw1];simp
 have B0:=Lh b0
 have B1:=Lh b1
 have B2:=Lh b2
 have HB:=Lh hb
 have hle:w.heap.size≤w1.heap.size:=by omega
 clear hb b0 b1 b2 hsz
 go_enter Try.func73,Try.ntmps73
 go_upto_region 1 with fail
 rw [← hw1]
 clear hw1
 have keepX:∀ wx,Below w1.heap.size w1 wx→wx.cell? ⟨w.heap.size,0,none⟩=some (.slice A n c)∧wx.cell? ⟨w.heap.size,1,none⟩=some (.bool b)∧wx.cell? ⟨w.heap.size + 1,1,none⟩=some (.slice A' n' c'):=fun wx hx =>
  ⟨(B0.out.below hx B0.out.lt).cell 0,(B0.out.below hx B0.out.lt).cell 1,(B1.out.below hx B1.out.lt).cell 1⟩
 have hcur:Below w1.heap.size w1 w1.drew:=below_drewN (Below.refl _ _) 1
 have hHeld:=keepX _ hcur
 refine wp_region_to 8 (fun w'=>w'.cell? ⟨w.heap.size,0,none⟩=some (.slice A n c)∧w'.cell? ⟨w.heap.size,1,none⟩=some (.bool b)∧w'.cell? ⟨w.heap.size + 1,1,none⟩=some (.slice A' n' c')) (by kernel_rfl) ?_
 refine wpAnyG_take (i:=0) (v:=?_) rfl (by kernel_rfl) (by kernel_rfl) (by kernel_rfl) (by kernel_rfl) (by kernel_rfl) rfl (fun _ _ _ h=>h) (Or.inl ⟨by rfl,?_⟩) hHeld ?_
 rotate_left
 ·(intro w' hSw;(try dsimp only at hSw);go_simp;(try with_reducible rfl))
 simp only [Act.put,stA]
 refine wpAnyG_take (i:=1) (v:=?_) rfl (by kernel_rfl) (by kernel_rfl) (by kernel_rfl) (by kernel_rfl) (by kernel_rfl) rfl (fun _ _ _ h=>h) (Or.inl ⟨by rfl,?_⟩) hHeld ?_
 rotate_left
 ·(intro w' hSw;(try dsimp only at hSw);go_simp;(try with_reducible rfl))
 simp only [Act.put]
 refine wpAnyG_take (i:=2) (v:=?_) rfl (by kernel_rfl) (by kernel_rfl) (by kernel_rfl) (by kernel_rfl) (by kernel_rfl) rfl (fun _ _ _ h=>h) (Or.inl ⟨by rfl,?_⟩) hHeld ?_
 rotate_left
 ·(intro w' hSw;(try dsimp only at hSw);go_simp;(try with_reducible rfl))
 simp only [Act.put]
 refine wpAnyG_take (i:=3) (v:=?_) rfl (by kernel_rfl) (by kernel_rfl) (by kernel_rfl) (by kernel_rfl) (by kernel_rfl) rfl (fun _ _ _ h=>h) (Or.inl ⟨by rfl,?_⟩) hHeld ?_
 rotate_left
 ·(intro w' hSw;(try dsimp only at hSw);go_simp;(try with_reducible rfl))
 simp only [Act.put]
 refine wpAnyG_two (i:=4) (j:=7) (by kernel_rfl) rfl rfl (fun K hK=>?_) (fun K hK=>?_)
 ·go_simp
  go_at_call 95
  refine (noughts_out _).mono ?_
  rintro e w2 ⟨gN,rfl,hown,hbN⟩
  have hown:=owns_base hown (show w.heap.size≤w1.drew.heap.size from hle)
  have hcur:=hcur.trans (hbN.mono hcur.size)
  refine hK.out _ _ (fun _=>keepX _ hcur) (fun hHeld=>?_)
  have hHeld:=hHeld (by decide)
  clear hK K
  try simp only [Act.put,stA,scZ,scS]
  refine wpAnyG_take (i:=5) (v:=?_) rfl (by kernel_rfl) (by kernel_rfl) (by kernel_rfl) (by kernel_rfl) (by kernel_rfl) rfl (fun _ _ _ h=>h) (Or.inl ⟨by rfl,?_⟩) hHeld ?_
  rotate_left
  ·(intro w' hSw;(try dsimp only at hSw);go_simp;(try with_reducible rfl))
  simp only [Act.put,stA]
  refine wpAnyG_take (i:=6) (v:=?_) rfl (by kernel_rfl) (by kernel_rfl) (by kernel_rfl) (by kernel_rfl) (by kernel_rfl) rfl (fun _ _ _ h=>h) (Or.inl ⟨by rfl,?_⟩) hHeld ?_
  rotate_left
  ·(intro w' hSw;(try dsimp only at hSw);go_simp;(try with_reducible rfl))
  simp only [Act.put]
  refine wpAnyG_one (i:=7) (by kernel_rfl) rfl (fun K hK=>?_)
  go_simp
  have hcurA:=hcur.alloc hcur.size (.cells #[.slice none 0 0,.bool false,.slice none 0 0,.bool false,.slice none 0 0,.bool false] 151)
  refine hK.out _ _ (fun _=>keepX _ hcurA) (fun hHeld=>?_)
  have hHeld:=hHeld (by decide)
  clear hK K
  try simp only [Act.put,stA,scZ,scS]
  refine wpAnyG_one (i:=8) (by kernel_rfl) rfl (fun K hK=>?_)
  go_simp
  refine hK.out _ _ (fun h=>absurd rfl h) (fun _=>?_)
  clear hK K
  refine wpAnyG_done (by kernel_rfl) ?_ _
  have hx:=Blk.new w2 151 [.slice A n c,.bool b,.slice A' n' c',.bool false,.slice (some ⟨gN,0,none⟩) 32 32,.bool true]
  have hown:=owns_below hown ((Below.refl w2.heap.size w2).alloc (Nat.le_refl _) (.cells #[.slice A n c,.bool b,.slice A' n' c',.bool false,.slice (some ⟨gN,0,none⟩) 32 32,.bool true] 151))
  have hcur:=hcur.alloc hcur.size (.cells #[.slice A n c,.bool b,.slice A' n' c',.bool false,.slice (some ⟨gN,0,none⟩) 32 32,.bool true] 151)
  clear hcurA
  have hr:=B2.out.below hcur B2.out.lt
  have y0:=hx.cell 4
  have y1:=hx.cell 5
  have g0:=hr.free 0
  have g1:=hr.free 1
  have h0:=hr.cell 0
  have h1:=hr.cell 1
  simp only [gcZ,gcS] at y0 y1 h0 h1
  have z:=hr.two (.slice (some ⟨gN,0,none⟩) 32 32) (.bool true)
  have zz0:=z.cell 0
  have zz1:=z.cell 1
  simp only [gcZ,gcS] at zz0 zz1
  have B9:=Lh (below_two (HB.out.trans (hcur.mono HB.out.size)) (show w.heap.size≤w.heap.size + 2 by omega) (.slice (some ⟨gN,0,none⟩) 32 32) (.bool true))
  have OW:=Lh (owns_other_box (owns_other_box hown hr (by decide) 0 (.slice (some ⟨gN,0,none⟩) 32 32)) (hr.set 0 (.slice (some ⟨gN,0,none⟩) 32 32)) (by decide) 1 (.bool true))
  clear hx hown hr hcur z hHeld keepX
  go_wp2
  refine bodyPost_ret (v:=.agg #[.slice (some ⟨gN,0,none⟩) 32 32,.bool true]) ?_ rfl ⟨gN,rfl,OW.out,B9.out⟩
  clear y0 y1 g0 g1 h0 h1
  simp [results,Try.f73,go_sem,zz0,zz1]
 ·go_simp
  have hZ0:Blk (w1.drew.alloc (.cells #[.slice none 0 0,.bool false,.slice none 0 0,.bool false,.slice none 0 0,.bool false] 151)) w1.heap.size 151 [.slice none 0 0,.bool false,.slice none 0 0,.bool false,.slice none 0 0,.bool false]:=Blk.new w1.drew 151 [.slice none 0 0,.bool false,.slice none 0 0,.bool false,.slice none 0 0,.bool false]
  have hcur:=hcur.alloc (show w1.heap.size≤w1.drew.heap.size from Nat.le_refl _) (.cells #[.slice none 0 0,.bool false,.slice none 0 0,.bool false,.slice none 0 0,.bool false] 151)
  refine hK.out _ _ (fun _=>keepX _ hcur) (fun hHeld=>?_)
  have hHeld:=hHeld (by decide)
  clear hK K
  try simp only [Act.put,stA,scZ,scS]
  refine wpAnyG_one (i:=4) (by kernel_rfl) rfl (fun K hK=>?_)
  go_simp
  go_at_call 95
  refine (noughts_out _).mono ?_
  rintro e w2 ⟨gN,rfl,hown,hbN⟩
  have hown:=owns_base hown (Nat.le_trans hle hcur.size)
  have hZ:=hZ0.below hbN hZ0.lt
  have hcur:=hcur.trans (hbN.mono hcur.size)
  have z0:=hZ.cell 0
  have f0:=hZ.free 0
  have z1:=hZ.cell 1
  have f1:=hZ.free 1
  have z2:=hZ.cell 2
  have f2:=hZ.free 2
  have z3:=hZ.cell 3
  have f3:=hZ.free 3
  have z4:=hZ.cell 4
  have f4:=hZ.free 4
  have z5:=hZ.cell 5
  have f5:=hZ.free 5
  simp only [gcZ,gcS] at z0 z1 z2 z3 z4 z5
  refine hK.out _ _ (fun _=>keepX _ hcur) (fun hHeld=>?_)
  have hHeld:=hHeld (by decide)
  clear hK K
  try simp only [Act.put,stA,scZ,scS]
  refine wpAnyG_take (i:=5) (v:=?_) rfl (by kernel_rfl) (by kernel_rfl) (by kernel_rfl) (by kernel_rfl) (by kernel_rfl) rfl (fun _ _ _ h=>h) (Or.inl ⟨by rfl,?_⟩) hHeld ?_
  rotate_left
  ·(intro w' hSw;(try dsimp only at hSw);go_simp;(try with_reducible rfl))
  simp only [Act.put,stA]
  refine wpAnyG_take (i:=6) (v:=?_) rfl (by kernel_rfl) (by kernel_rfl) (by kernel_rfl) (by kernel_rfl) (by kernel_rfl) rfl (fun _ _ _ h=>h) (Or.inl ⟨by rfl,?_⟩) hHeld ?_
  rotate_left
  ·(intro w' hSw;(try dsimp only at hSw);go_simp;(try with_reducible rfl))
  simp only [Act.put]
  refine wpAnyG_one (i:=8) (by kernel_rfl) rfl (fun K hK=>?_)
  go_simp
  refine hK.out _ _ (fun h=>absurd rfl h) (fun _=>?_)
  clear hK K
  refine wpAnyG_done (by kernel_rfl) ?_ _
  have hx:=hZ.six (.slice A n c) (.bool b) (.slice A' n' c') (.bool false) (.slice (some ⟨gN,0,none⟩) 32 32) (.bool true)
  have hown:=owns_six hown hZ (by decide) (.slice A n c) (.bool b) (.slice A' n' c') (.bool false) (.slice (some ⟨gN,0,none⟩) 32 32) (.bool true)
  have hcur:=below_six hcur (Nat.le_refl w1.heap.size) (.slice A n c) (.bool b) (.slice A' n' c') (.bool false) (.slice (some ⟨gN,0,none⟩) 32 32) (.bool true)
  clear hZ hZ0 z0 z1 z2 z3 z4 z5 f0 f1 f2 f3 f4 f5
  obtain ⟨wx,hwx⟩:∃ wx,wx=((((((w2.setCell ⟨w1.heap.size,0,none⟩ (.slice A n c)).setCell ⟨w1.heap.size,1,none⟩ (.bool b)).setCell ⟨w1.heap.size,2,none⟩ (.slice A' n' c')).setCell ⟨w1.heap.size,3,none⟩ (.bool false)).setCell ⟨w1.heap.size,4,none⟩ (.slice (some ⟨gN,0,none⟩) 32 32)).setCell ⟨w1.heap.size,5,none⟩ (.bool true)):=⟨_,rfl⟩
  rw [← hwx] at hx hown hcur
  rw [← hwx]
  clear hwx
  have hr:=B2.out.below hcur B2.out.lt
  have y0:=hx.cell 4
  have y1:=hx.cell 5
  have g0:=hr.free 0
  have g1:=hr.free 1
  have h0:=hr.cell 0
  have h1:=hr.cell 1
  simp only [gcZ,gcS] at y0 y1 h0 h1
  have z:=hr.two (.slice (some ⟨gN,0,none⟩) 32 32) (.bool true)
  have zz0:=z.cell 0
  have zz1:=z.cell 1
  simp only [gcZ,gcS] at zz0 zz1
  have B9:=Lh (below_two (HB.out.trans (hcur.mono HB.out.size)) (show w.heap.size≤w.heap.size + 2 by omega) (.slice (some ⟨gN,0,none⟩) 32 32) (.bool true))
  have OW:=Lh (owns_other_box (owns_other_box hown hr (by decide) 0 (.slice (some ⟨gN,0,none⟩) 32 32)) (hr.set 0 (.slice (some ⟨gN,0,none⟩) 32 32)) (by decide) 1 (.bool true))
  clear hx hown hr hcur z hHeld keepX
  go_wp2
  refine bodyPost_ret (v:=.agg #[.slice (some ⟨gN,0,none⟩) 32 32,.bool true]) ?_ rfl ⟨gN,rfl,OW.out,B9.out⟩
  clear y0 y1 g0 g1 h0 h1
  simp [results,Try.f73,go_sem,zz0,zz1]
end Go.Proofs.Ytdbeiikaeccbhaa
