/- Texts of the layers below, joined. -/
import Derived.Test.YtdbeiikaeccbhaaDa9
import Derived.Test.YtdbeiikaeccbhaaDa25
import Derived.Laws.CopyRow
import Derived.Deep.Matrix
import Derived.Lib.SmallJoins
import Derived.Deep.Cut
import Derived.BigQuiet
import Derived.Deep.QuietTactic
set_option maxRecDepth 100000
set_option maxHeartbeats 12800000
set_option linter.unusedVariables false
namespace Go.Proofs.Ytdbeiikaeccbhaa
open Go.RowKit
theorem zero_cells (k:Nat):(Builtin.zeroCells (Value.int .u8 0).cells k).toList=List.replicate k (.int .u8 0):=by
 have:=toList_madeCells_one (Value.int .u8 0) k
 simpa [madeCells,Builtin.zeroCells,Value.cells] using this
theorem run_append_noughts (w:World) (base:Nat) (ty:TypeId) (v:Value) (n:Nat) (xs:List Value) (hown:w.ownsRow base 5 1 v n xs) (k:Nat) (hk:k≤1000) (hn:n≤1000) (hbase:base≤w.heap.size) :
  ∃ v' w',(Builtin.append_ #[22,3] ty #[v,.int .i64 (k:Int)]).run Try.prog w=.ok v' w'∧w'.ownsRow base 5 1 v' (n + k) (xs ++ List.replicate k (.int .u8 0))∧w.grownBy w' v.ownBlock∧(v'.ownBlock=v.ownBlock∨v'.ownBlock=some w.heap.size):=by
 obtain ⟨i,hi,hz,hsize,hby⟩:=info_parts byte_info
 have hml:(100000:Nat)≤maxLen:=by decide
 have hw:IntKind.i64.wrap (k:Int)=(k:Int):=Lib.wrap_i64_small k (by omega)
 have hkk:¬ ((k:Int) < 0):=by omega
 have hw0:IntKind.i64.wrap 0=0:=by decide
 have hmul:¬ ((281474976710656:Int) < (k:Int) * (i.bytes:Int)):=by rw [hby];omega
 have ht:=Try.underlying22
 have htx:=Try.underlying3
 have grown:∀ (old:Nat),old < n + k→∀ (row:Option Nat),
   (w.drew.alloc (.cells (xs.toArray ++ Builtin.zeroCells (Value.int .u8 0).cells k ++ Builtin.zeroCells (Value.int .u8 0).cells (grownCap w (n + k) old 5 - (n + k))) 5)).ownsRow base 5 1
    (.slice (some ⟨w.heap.size,0,none⟩) (n + k) (grownCap w (n + k) old 5)) (n + k) (xs ++ List.replicate k (.int .u8 0)) ∧
   w.grownBy (w.drew.alloc (.cells (xs.toArray ++ Builtin.zeroCells (Value.int .u8 0).cells k ++ Builtin.zeroCells (Value.int .u8 0).cells (grownCap w (n + k) old 5 - (n + k))) 5)) row:=by
  intro old ho row
  have hge:=grownCap_ge w (n + k) old 5
  have hcm:grownCap w (n + k) old 5≤maxLen:=grownCap_le_maxLen w (n + k) old 5 (by omega)
  have hxl:xs.length=n:=by have:=hown.1;omega
  refine ⟨⟨by simp [hxl],.inr ⟨w.heap.size,_,_,rfl,hbase,heap_alloc_new w.drew _,hge,hcm,?_,?_⟩⟩,⟨rfl,rfl,rfl,by simp,fun j hj _=>heap_alloc_old w.drew _ hj⟩⟩
  ·simp only [Array.size_append,List.size_toArray,size_zeroCells,hxl]
   simp [Value.cells]
   omega
  ·simp only [Array.toList_append,zero_cells]
   have hl2:(xs ++ List.replicate k (Value.int .u8 0)).length=n + k:=by simp [hxl]
   rw [Nat.mul_one,← hl2]
   exact List.take_left
 rcases hown.2 with ⟨rfl,rfl⟩ | ⟨g,cap,cur,rfl,hbg,hg,hnc,hcm,hcs,htake⟩
 ·have hx:xs=[]:=List.eq_nil_of_length_eq_zero (by simpa using hown.1)
  subst hx
  rcases Nat.eq_zero_or_pos k with h0 | h0
  ·subst h0
   refine ⟨.slice none 0 0,w,?_,by simpa using hown,grownBy_refl _ _,.inl rfl⟩
   have hm0:¬ ((281474976710656:Int) < ((0:Nat):Int) * (i.bytes:Int)):=hmul
   simp [Builtin.append_,run_underlying ht,run_underlying htx,sizeOf,typeInfo,zeroValue,hi,hz,asInt,asIntOf,hw0]
  ·have hold:(Builtin.firstCells i.size 0 (.slice none 0 0)).run Try.prog w.drew=.ok ([]:List Value).toArray w.drew:=by simp [Builtin.firstCells]
   have hr:=run_append_made (P:=Try.prog) w 22 3 ty 5 i _ ht htx hi hz none 0 0 [] hold k h0 (by omega) hk (by omega) (by omega) (by omega) (by rw [hby];exact growslice_fits (by omega) (by omega))
   have hgr:=grown 0 (by omega) (Value.ownBlock (.slice none 0 0))
   simp only [Nat.zero_add] at hgr hr ⊢
   exact ⟨_,_,hr,hgr.1,hgr.2,.inr rfl⟩
 ·by_cases hroom:n + k≤cap
  ·have hfit:0 + n + (List.replicate k (Value.int .u8 0)).length≤cur.size:=by simp;omega
   rcases Nat.eq_zero_or_pos k with h0 | h0
   ·subst h0
    refine ⟨.slice (some ⟨g,0,none⟩) n cap,w,?_,by simpa using hown,grownBy_refl _ _,.inl rfl⟩
    simp [Builtin.append_,run_underlying ht,run_underlying htx,sizeOf,typeInfo,zeroValue,hi,hz,asInt,asIntOf,hnc,storeCells,hw0]
   ·have hst:=run_storeCells_at Try.prog g n 5 (List.replicate k (Value.int .u8 0)) 0 cur w hg (by simp;omega) (fun u hu=>by rw [List.eq_of_mem_replicate hu];rfl)
    have hne:k≠0:=by omega
    have hadd:(⟨g,0,none⟩:Addr).add n=⟨g,n,none⟩:=by unfold Addr.add;split <;> simp_all
    have hnm:n * i.size=n:=by rw [hsize,Nat.mul_one]
    refine ⟨.slice (some ⟨g,0,none⟩) (n + k) cap,w.setRow g (cur.toList.take (n + 0) ++ List.replicate k (Value.int .u8 0) ++ cur.toList.drop (n + 0 + (List.replicate k (Value.int .u8 0)).length)).toArray,?_,⟨by simp;have:=hown.1;omega,.inr ⟨g,cap,_,rfl,hbg,setRow_heap w g cur _ _ _ hg,hroom,hcm,?_,?_⟩⟩,⟨rfl,rfl,rfl,by simp,fun j _ hj=>setRow_other w g j _ (fun e=>hj (by simp [Value.ownBlock,e]))⟩,.inl rfl⟩
    ·simp [Builtin.append_,run_underlying ht,run_underlying htx,sizeOf,typeInfo,zeroValue,hi,hz,asInt,asIntOf,hw,hkk,hmul,hroom,hne,hsize,zero_cells,hadd,hst]
    ·simp
     omega
    ·simp only [Nat.add_zero,List.length_replicate,Nat.mul_one] at htake ⊢
     rw [htake]
     have hxl:xs.length=n:=by have:=hown.1;omega
     rw [← hxl,List.append_assoc,← List.append_assoc]
     rw [List.take_append_of_le_length (by simp)]
     rw [List.take_of_length_le (by simp)]
  ·have holds:∀ j u,xs[j]?=some u→w.drew.cell? ((⟨g,0,none⟩:Addr).add j)=some u:=hown.cells (g:=g) rfl
   have hold:=run_firstCells_some (P:=Try.prog) w.drew i.size n ⟨g,0,none⟩ n cap xs (by rw [hsize];have:=hown.1;omega) holds
   have hr:=run_append_made (P:=Try.prog) w 22 3 ty 5 i _ ht htx hi hz (some ⟨g,0,none⟩) n cap xs hold k (by omega) (by omega) hk (by omega) (by omega) (by omega) (by rw [hby];exact growslice_fits (by omega) (by omega))
   have hgr:=grown cap (by omega) (Value.ownBlock (.slice (some ⟨g,0,none⟩) n cap))
   exact ⟨_,_,hr,hgr.1,hgr.2,.inr rfl⟩
theorem wpList_noughts (w:World) {ops:Array Oper} {rest:List Oper} {o:Oper} {a:Act} {Q:Exit→Act→World→Prop} (hgd:o.guard=none) (s x:Operand)
  (ho:o.op=.call { callee:=.builtin .append,args:=#[s,x],argTypes:=#[22,3] }) (base:Nat) (v:Value) (n:Nat) (xs:List Value) (hs:a.eval s=v) (hown:w.ownsRow base 5 1 v n xs)
  (k:Nat) (hx:a.eval x=.int .i64 (k:Int)) (hk:k≤1000) (hn:n≤1000) (hbase:base≤w.heap.size)
  (h:∀ v' w',w'.ownsRow base 5 1 v' (n + k) (xs ++ List.replicate k (.int .u8 0))→w.grownBy w' v.ownBlock→(v'.ownBlock=v.ownBlock∨v'.ownBlock=some w.heap.size)→wpList Try.prog ops Q rest (a.put o.dst v') w'):wpList Try.prog ops Q (o :: rest) a w:=by
 refine wpList_plain hgd fun K hK=>?_
 obtain ⟨v',w',hr,h2,h3,h4⟩:=run_append_noughts w base o.type v n xs hown k hk hn hbase
 unfold Oper.wp execOp
 simp only [ho,resolve,invoke,builtin,Sem.run_bind,Sem.run_pure,Result.andThen_ok,List.map_toArray,List.map_cons,List.map_nil,hs,hx,hr]
 exact hK _ _ (h v' w' h2 h3 h4)
end Go.Proofs.Ytdbeiikaeccbhaa
namespace Go.Proofs.Ytdbeiikaeccbhaa
open Go.RowKit Go.OpenShut Go.ChangeShapes Go.WideShapes Go.Deep
section
variable {w w':World} {A:Option Addr} {n c:Nat} {zss:List (List Int)}
end
section
variable {w w':World} {base base':Nat} {A:Option Addr} {n c:Nat} {zss:List (List Int)}
end
end Go.Proofs.Ytdbeiikaeccbhaa
namespace Go.Proofs.Ytdbeiikaeccbhaa
open Go.RowKit
end Go.Proofs.Ytdbeiikaeccbhaa
namespace Go.Proofs.Ytdbeiikaeccbhaa
end Go.Proofs.Ytdbeiikaeccbhaa
namespace Go.Proofs.Ytdbeiikaeccbhaa
open Go.RowKit
end Go.Proofs.Ytdbeiikaeccbhaa
