/- Texts of layers 1 to 12, joined. -/
import Derived.Test.YtifgcfepbenpjaaGreatNa16
import Derived.Laws.CopyRow
import Derived.Deep.Matrix
import Derived.Lib.SmallJoins
import Derived.Deep.Cut
import Derived.BigQuiet
import Derived.Deep.QuietTactic
set_option maxRecDepth 100000
set_option maxHeartbeats 12800000
set_option linter.unusedVariables false
namespace Go.Proofs.YtifgcfepbenpjaaGreat
open Go.RowKit
theorem zero_cells (k:Nat):(Builtin.zeroCells (Value.int .u8 0).cells k).toList=List.replicate k (.int .u8 0):=by
 have:=toList_madeCells_one (Value.int .u8 0) k
 simpa [madeCells,Builtin.zeroCells,Value.cells] using this
theorem run_append_noughts (w:World) (base:Nat) (ty:TypeId) (v:Value) (n:Nat) (xs:List Value) (hown:w.ownsRow base 5 1 v n xs) (k:Nat) (hk:k≤1000) (hn:n≤1000) (hbase:base≤w.heap.size) :
  ∃ v' w',(Builtin.append_ #[42,3] ty #[v,.int .i64 (k:Int)]).run Tryz.prog w=.ok v' w'∧w'.ownsRow base 5 1 v' (n + k) (xs ++ List.replicate k (.int .u8 0))∧w.grownBy w' v.ownBlock∧(v'.ownBlock=v.ownBlock∨v'.ownBlock=some w.heap.size):=by
 obtain ⟨i,hi,hz,hsize,hby⟩:=info_parts byte_info
 have hml:(100000:Nat)≤maxLen:=by decide
 have hw:IntKind.i64.wrap (k:Int)=(k:Int):=Lib.wrap_i64_small k (by omega)
 have hkk:¬ ((k:Int) < 0):=by omega
 have hw0:IntKind.i64.wrap 0=0:=by decide
 have hmul:¬ ((281474976710656:Int) < (k:Int) * (i.bytes:Int)):=by rw [hby];omega
 have ht:=Tryz.underlying42
 have htx:=Tryz.underlying3
 have grown:∀ (old:Nat),old < n + k→∀ (row:Option Nat),
   (w.drew.alloc (.cells (xs.toArray ++ Builtin.zeroCells (Value.int .u8 0).cells k ++ Builtin.zeroCells (Value.int .u8 0).cells (grownCap w (n + k) old 5 - (n + k))) 5)).ownsRow base 5 1
    (.slice (some ⟨w.heap.size,0,none⟩) (n + k) (grownCap w (n + k) old 5)) (n + k) (xs ++ List.replicate k (.int .u8 0)) ∧
   w.grownBy (w.drew.alloc (.cells (xs.toArray ++ Builtin.zeroCells (Value.int .u8 0).cells k ++ Builtin.zeroCells (Value.int .u8 0).cells (grownCap w (n + k) old 5 - (n + k))) 5)) row:=by
  intro old ho row
  have hge:=grownCap_ge w (n + k) old 5
  have hcm:grownCap w (n + k) old 5≤maxLen:=grownCap_le_maxLen w (n + k) old 5 (by omega)
  have hxl:xs.length=n:=by have:=hown.1;omega
  refine ⟨⟨by simp [hxl],.inr ⟨w.heap.size,_,_,rfl,hbase,heap_alloc_new w.drew _,hge,hcm,?_,?_⟩⟩,⟨rfl,rfl,rfl,by simp,fun j hj _=>heap_alloc_old w.drew _ hj⟩⟩
  ·simp only [Array.size_append,List.size_toArray,size_zeroCells,hxl]
   simp [Value.cells]
   omega
  ·simp only [Array.toList_append,zero_cells]
   have hl2:(xs ++ List.replicate k (Value.int .u8 0)).length=n + k:=by simp [hxl]
   rw [Nat.mul_one,← hl2]
   exact List.take_left
 rcases hown.2 with ⟨rfl,rfl⟩ | ⟨g,cap,cur,rfl,hbg,hg,hnc,hcm,hcs,htake⟩
 ·have hx:xs=[]:=List.eq_nil_of_length_eq_zero (by simpa using hown.1)
  subst hx
  rcases Nat.eq_zero_or_pos k with h0 | h0
  ·subst h0
   refine ⟨.slice none 0 0,w,?_,by simpa using hown,grownBy_refl _ _,.inl rfl⟩
   have hm0:¬ ((281474976710656:Int) < ((0:Nat):Int) * (i.bytes:Int)):=hmul
   simp [Builtin.append_,run_underlying ht,run_underlying htx,sizeOf,typeInfo,zeroValue,hi,hz,asInt,asIntOf,hw0]
  ·have hold:(Builtin.firstCells i.size 0 (.slice none 0 0)).run Tryz.prog w.drew=.ok ([]:List Value).toArray w.drew:=by simp [Builtin.firstCells]
   have hr:=run_append_made (P:=Tryz.prog) w 42 3 ty 5 i _ ht htx hi hz none 0 0 [] hold k h0 (by omega) hk (by omega) (by omega) (by omega) (by rw [hby];exact growslice_fits (by omega) (by omega))
   have hgr:=grown 0 (by omega) (Value.ownBlock (.slice none 0 0))
   simp only [Nat.zero_add] at hgr hr ⊢
   exact ⟨_,_,hr,hgr.1,hgr.2,.inr rfl⟩
 ·by_cases hroom:n + k≤cap
  ·have hfit:0 + n + (List.replicate k (Value.int .u8 0)).length≤cur.size:=by simp;omega
   rcases Nat.eq_zero_or_pos k with h0 | h0
   ·subst h0
    refine ⟨.slice (some ⟨g,0,none⟩) n cap,w,?_,by simpa using hown,grownBy_refl _ _,.inl rfl⟩
    simp [Builtin.append_,run_underlying ht,run_underlying htx,sizeOf,typeInfo,zeroValue,hi,hz,asInt,asIntOf,hnc,storeCells,hw0]
   ·have hst:=run_storeCells_at Tryz.prog g n 5 (List.replicate k (Value.int .u8 0)) 0 cur w hg (by simp;omega) (fun u hu=>by rw [List.eq_of_mem_replicate hu];rfl)
    have hne:k≠0:=by omega
    have hadd:(⟨g,0,none⟩:Addr).add n=⟨g,n,none⟩:=by unfold Addr.add;split <;> simp_all
    have hnm:n * i.size=n:=by rw [hsize,Nat.mul_one]
    refine ⟨.slice (some ⟨g,0,none⟩) (n + k) cap,w.setRow g (cur.toList.take (n + 0) ++ List.replicate k (Value.int .u8 0) ++ cur.toList.drop (n + 0 + (List.replicate k (Value.int .u8 0)).length)).toArray,?_,⟨by simp;have:=hown.1;omega,.inr ⟨g,cap,_,rfl,hbg,setRow_heap w g cur _ _ _ hg,hroom,hcm,?_,?_⟩⟩,⟨rfl,rfl,rfl,by simp,fun j _ hj=>setRow_other w g j _ (fun e=>hj (by simp [Value.ownBlock,e]))⟩,.inl rfl⟩
    ·simp [Builtin.append_,run_underlying ht,run_underlying htx,sizeOf,typeInfo,zeroValue,hi,hz,asInt,asIntOf,hw,hkk,hmul,hroom,hne,hsize,zero_cells,hadd,hst]
    ·simp
     omega
    ·simp only [Nat.add_zero,List.length_replicate,Nat.mul_one] at htake ⊢
     rw [htake]
     have hxl:xs.length=n:=by have:=hown.1;omega
     rw [← hxl,List.append_assoc,← List.append_assoc]
     rw [List.take_append_of_le_length (by simp)]
     rw [List.take_of_length_le (by simp)]
  ·have holds:∀ j u,xs[j]?=some u→w.drew.cell? ((⟨g,0,none⟩:Addr).add j)=some u:=hown.cells (g:=g) rfl
   have hold:=run_firstCells_some (P:=Tryz.prog) w.drew i.size n ⟨g,0,none⟩ n cap xs (by rw [hsize];have:=hown.1;omega) holds
   have hr:=run_append_made (P:=Tryz.prog) w 42 3 ty 5 i _ ht htx hi hz (some ⟨g,0,none⟩) n cap xs hold k (by omega) (by omega) hk (by omega) (by omega) (by omega) (by rw [hby];exact growslice_fits (by omega) (by omega))
   have hgr:=grown cap (by omega) (Value.ownBlock (.slice (some ⟨g,0,none⟩) n cap))
   exact ⟨_,_,hr,hgr.1,hgr.2,.inr rfl⟩
theorem wpList_noughts (w:World) {ops:Array Oper} {rest:List Oper} {o:Oper} {a:Act} {Q:Exit→Act→World→Prop} (hgd:o.guard=none) (s x:Operand)
  (ho:o.op=.call { callee:=.builtin .append,args:=#[s,x],argTypes:=#[42,3] }) (base:Nat) (v:Value) (n:Nat) (xs:List Value) (hs:a.eval s=v) (hown:w.ownsRow base 5 1 v n xs)
  (k:Nat) (hx:a.eval x=.int .i64 (k:Int)) (hk:k≤1000) (hn:n≤1000) (hbase:base≤w.heap.size)
  (h:∀ v' w',w'.ownsRow base 5 1 v' (n + k) (xs ++ List.replicate k (.int .u8 0))→w.grownBy w' v.ownBlock→(v'.ownBlock=v.ownBlock∨v'.ownBlock=some w.heap.size)→wpList Tryz.prog ops Q rest (a.put o.dst v') w'):wpList Tryz.prog ops Q (o :: rest) a w:=by
 refine wpList_plain hgd fun K hK=>?_
 obtain ⟨v',w',hr,h2,h3,h4⟩:=run_append_noughts w base o.type v n xs hown k hk hn hbase
 unfold Oper.wp execOp
 simp only [ho,resolve,invoke,builtin,Sem.run_bind,Sem.run_pure,Result.andThen_ok,List.map_toArray,List.map_cons,List.map_nil,hs,hx,hr]
 exact hK _ _ (h v' w' h2 h3 h4)
theorem lit_sz4 (w:World) (b B:Nat) (hb:b=w.heap.size) (hB:w.heap.size < B):Seq (w.alloc (.cells #[.int .i64 4,.int .i64 1,.int .i64 1,.int .i64 2] 3)) B (some ⟨b,0,none⟩) (ints .i64 sz4):=lit_row w 3 .i64 sz4 _ b B rfl hb hB
theorem rpart_any (v:Int) (hv:0≤v∧v < 18446744073709551616) (k:Nat) (hk:k < 256) (A:Option Addr) (n c:Nat) (b:Txt) (w:World) (h:Arg w .u8 A n c b) (hn:n≤24) :
  Calls Tryz.prog 191 #[.int .u64 v,.int .i64 (k:Int),.slice A n c] w fun e w'=>∃ A' c',e=.returned (.slice A' 32 c')∧w'.ownsRow w.heap.size 5 1 (.slice A' 32 c') 32 (ints .u8 (partT v k b))∧Below w.heap.size w w':=by
 obtain ⟨i0,hi0,hz0,hz1,hz2⟩:=info_parts byte_info
 have hml:(1000:Nat)≤maxLen:=by decide
 have e1:IntKind.u64.wrap (k:Int)=k:=wraps_u64 k (by omega) (by omega)
 have e2:IntKind.u64.wrap (n:Int)=n:=wraps_u64 n (by omega) (by omega)
 have hb1:Below w.heap.size w (w.alloc (.cells #[.int .u64 v,.int .u64 (k:Int),.int .u64 (n:Int),.int .u64 0] 27)):=(Below.refl _ _).alloc (Nat.le_refl _) _
 obtain ⟨w1,hw1⟩:∃ x,x=w.alloc (.cells #[.int .u64 v,.int .u64 (k:Int),.int .u64 (n:Int),.int .u64 0] 27):=⟨_,rfl⟩
 have hL:=nums_row w v k n w.heap.size w1.heap.size rfl (by rw [hw1];simp)
 rw [← hw1] at hb1 hL
 have hb2:Below w1.heap.size w1 (w1.alloc (.cells #[.int .i64 4,.int .i64 1,.int .i64 1,.int .i64 2] 3)):=(Below.refl _ _).alloc (Nat.le_refl _) _
 have hZ:=lit_sz4 w1 w1.heap.size (w1.alloc (.cells #[.int .i64 4,.int .i64 1,.int .i64 1,.int .i64 2] 3)).heap.size rfl (by simp)
 obtain ⟨w2,hw2⟩:∃ x,x=w1.alloc (.cells #[.int .i64 4,.int .i64 1,.int .i64 1,.int .i64 2] 3):=⟨_,rfl⟩
 rw [← hw2] at hb2 hZ
 have hL2:=(hL.below hb2).more hb2.size
 have hB:=hb1.trans (hb2.mono hb1.size)
 have RW:=Lh (row_any (some ⟨w.heap.size,0,none⟩) (some ⟨w1.heap.size,0,none⟩) 4 4 4 [v,k,n,0] sz4 w2 hZ okB_sz4 hL2 rfl rfl (by
  intro z hz
  simp only [List.mem_cons,List.not_mem_nil,or_false] at hz
  unfold isWord
  rcases hz with rfl | rfl | rfl | rfl <;> omega))
 have hrl:=rowT_length v k n
 have hs1:w1.heap.size=w.heap.size + 1:=by rw [hw1];simp
 have HA:=Lh h
 have HB:=Lh hB
 have hbl:=h.len
 have HBL:=Lh hbl
 have hge:w.heap.size≤w2.heap.size:=hB.size
 rw [hs1] at RW
 have HW1:=Lh hw1
 have HW2:=Lh hw2
 clear h hL hL2 hZ hb1 hb2 hB hbl
 go_enter Tryz.func191,Tryz.ntmps191
 go_wp2_with fail
 rw [← hw1,← hw2]
 clear hw1 hw2 hs1
 refine RW.out.mono ?_
 rintro e w3 ⟨A3,c3,rfl,hown,hb3⟩
 rw [show rowTo [v,(k:Int),(n:Int),0] sz4 4=rowT v k n from rfl] at hown ⊢
 rw [hrl] at hown ⊢
 have B3:=Lh (HB.out.trans (hb3.mono HB.out.size))
 have O3:=Lh (owns_base hown hge)
 have HA3:=Lh (HA.out.below B3.out)
 have hg3:w.heap.size≤w3.heap.size:=B3.out.size
 clear hown hb3 RW hrl hge
 obtain ⟨m,hm⟩:∃ m:Nat,24 - (n:Int)=(m:Int):=⟨24 - n,by omega⟩
 have hnm:n + m=24:=by omega
 have hsz3:w.heap.size≤w3.heap.size:=hg3
 have hM1:8 + n≤maxLen:=by omega
 go_wp2_with (first
  | (at_builtin;(refine wpList_app _ rfl (.tmp 17) (.tmp 18) _ rfl w.heap.size 5 i0 _ 1 Tryz.underlying42 hi0 hz0 hz1 hz2 rfl _ 8 _ rfl O3.out w3.heap.size A n c (ints .u8 b) rfl (by rw [ints_length,HBL.out]) HA3.out.seq (ints_one _ _) hM1 (by omega) hg3 ?_);intro v4 w4 hown4 hg4 hob4;obtain ⟨A4,c4,rfl⟩:=owns_slice hown4;have hsz4:w.heap.size≤w4.heap.size:=Nat.le_trans hsz3 hg4.size;have HL4:=Lh (O3.out.lt);have O4:=Lh hown4;have B4:=Lh (B3.out.grown hg4 hg3 (fun g e=>(HL4.out g e).1));clear hown4 hg4 hob4)
  | (at_builtin;(refine wpList_noughts _ rfl (.tmp 20) (.tmp 23) rfl w.heap.size _ (8 + n) _ rfl O4.out m rfl (by omega) (by omega) hsz4 ?_);intro v5 w5 hown5 hg5 hob5;obtain ⟨A5,c5,rfl⟩:=owns_slice hown5;have HL5:=Lh (O4.out.lt);have O5:=Lh hown5;have B5:=Lh (B4.out.grown hg5 hsz4 (fun g e=>(HL5.out g e).1));clear hown5 hg5 hob5))
 go_ret
 have e32:8 + n + m=32:=by omega
 have hO:=O5.out
 rw [e32] at hO ⊢
 refine ⟨A5,c5,rfl,?_,B5.out⟩
 have:ints .u8 (partT v k b)=ints .u8 (rowT v k n) ++ ints .u8 b ++ List.replicate m (.int .u8 0):=by
  unfold partT
  rw [ints_app,ints_app,HBL.out,show 24 - n=m by omega]
  simp [ints]
 rw [this]
 exact hO
end Go.Proofs.YtifgcfepbenpjaaGreat
namespace Go.Proofs.YtifgcfepbenpjaaGreat
open Go.RowKit Go.OpenShut Go.ChangeShapes Go.WideShapes Go.Deep
structure Texts (w:World) (A:Option Addr) (n c:Nat) (zss:List (List Int)):Prop where
 len:zss.length=n
 cap:n≤c
 max:c≤maxLen
 byte:∀ zs ∈ zss,∀ z ∈ zs,isByte z
 at_:∀ i,i < n→∃ b o Ai ni ci,A=some ⟨b,o,none⟩∧b < w.heap.size∧w.cell? ⟨b,o + i,none⟩=some (.slice Ai ni ci)∧Arg w .u8 Ai ni ci (zss.getD i [])
section
variable {w w':World} {A:Option Addr} {n c:Nat} {zss:List (List Int)}
theorem Texts.below (h:Texts w A n c zss) (hb:Below w.heap.size w w'):Texts w' A n c zss :=
 ⟨h.len,h.cap,h.max,h.byte,fun i hi=>by
  obtain ⟨b,o,Ai,ni,ci,e,hlt,hc,ha⟩:=h.at_ i hi
  exact ⟨b,o,Ai,ni,ci,e,Nat.lt_of_lt_of_le hlt hb.size,(hb.cell (p:=⟨b,o + i,none⟩) hlt).trans hc,ha.below hb⟩⟩
theorem Texts.nil (w:World):Texts w none 0 0 []:=⟨rfl,Nat.le_refl _,by decide,by simp,fun i hi=>by omega⟩
theorem Texts.byte_at (h:Texts w A n c zss) (i:Nat):∀ z ∈ zss.getD i [],isByte z:=by
 rcases Nat.lt_or_ge i zss.length with hi | hi
 ·rw [gtD,geE hi]
  exact h.byte _ (List.getElem_mem hi)
 ·rw [gtD,List.getElem?_eq_none hi]
  simp
end
def OwnTexts (w:World) (base:Nat) (A:Option Addr) (n c:Nat) (zss:List (List Int)):Prop :=
 ∃ vs:List Value,w.ownsRow base 42 1 (.slice A n c) n vs∧zss.length=n∧(∀ zs ∈ zss,∀ z ∈ zs,isByte z) ∧
  ∀ i,i < n→∃ Ai ni ci,vs[i]?=some (.slice Ai ni ci)∧w.ownsRow base 5 1 (.slice Ai ni ci) ni (ints .u8 (zss.getD i []))
theorem Texts.of_own {w:World} {base:Nat} {A:Option Addr} {n c:Nat} {zss:List (List Int)} (h:OwnTexts w base A n c zss):Texts w A n c zss:=by
 obtain ⟨vs,hown,hl,hb,hin⟩:=h
 refine ⟨hl,?_,?_,hb,fun i hi=>?_⟩
 ·rcases hown.2 with ⟨e,h0⟩ | ⟨g,cap,cur,e,_,_,h1,h2,_⟩ <;> cases e
  ·exact Nat.le_refl _
  ·exact h1
 ·rcases hown.2 with ⟨e,h0⟩ | ⟨g,cap,cur,e,_,_,h1,h2,_⟩ <;> cases e
  ·decide
  ·exact h2
 ·obtain ⟨Ai,ni,ci,hv,ho⟩:=hin i hi
  obtain ⟨b,o,e,hlt,hc⟩:=Seq.own hown i _ hv
  exact ⟨b,o,Ai,ni,ci,e,hlt,hc,Arg.own ho⟩
section
variable {w w':World} {base base':Nat} {A:Option Addr} {n c:Nat} {zss:List (List Int)}
theorem OwnTexts.below (h:OwnTexts w base A n c zss) (hb:Below w.heap.size w w'):OwnTexts w' base A n c zss:=by
 obtain ⟨vs,hown,hl,hby,hin⟩:=h
 refine ⟨vs,owns_below hown hb,hl,hby,fun i hi=>?_⟩
 obtain ⟨Ai,ni,ci,hv,ho⟩:=hin i hi
 exact ⟨Ai,ni,ci,hv,owns_below ho hb⟩
theorem OwnTexts.lower (h:OwnTexts w base A n c zss) (hb:base'≤base):OwnTexts w base' A n c zss:=by
 obtain ⟨vs,hown,hl,hby,hin⟩:=h
 refine ⟨vs,owns_base hown hb,hl,hby,fun i hi=>?_⟩
 obtain ⟨Ai,ni,ci,hv,ho⟩:=hin i hi
 exact ⟨Ai,ni,ci,hv,owns_base ho hb⟩
theorem OwnTexts.nil (w:World) (base:Nat):OwnTexts w base none 0 0 []:=⟨[],World.ownsRow_nil _ _ _ _,rfl,by simp,fun i hi=>by omega⟩
theorem owns_other {e e':TypeId} (he:e≠e') {b b':Nat} {v v':Value} {k k' s s':Nat} {xs xs':List Value} (h:w.ownsRow b e s v k xs) (h':w.ownsRow b' e' s' v' k' xs'):v.ownBlock=none∨v.ownBlock≠v'.ownBlock:=by
 rcases h.2 with ⟨rfl,_⟩ | ⟨g,cap,cur,rfl,_,hg,_⟩
 ·exact .inl rfl
 rcases h'.2 with ⟨rfl,_⟩ | ⟨g',cap',cur',rfl,_,hg',_⟩
 ·exact .inr (by simp [Value.ownBlock])
 ·refine .inr fun e2=>?_
  have e3:g=g':=by simpa [Value.ownBlock] using e2
  rw [e3,hg'] at hg
  simp at hg
  exact he hg.2.symm
end
theorem texts_info:(Tryz.prog.info? 42).map (fun i=>(i.zero,i.size,i.bytes))=some (some (.slice none 0 0),1,24):=by kernel_rfl
theorem OwnTexts.snoc {w w':World} {base:Nat} {A A' Ai:Option Addr} {n c c' ni ci:Nat} {zss:List (List Int)} {zs:List Int} {vs:List Value} (hown0:w.ownsRow base 42 1 (.slice A n c) n vs) (hl:zss.length=n) (hby:∀ zs ∈ zss,∀ z ∈ zs,isByte z)
  (hin:∀ i,i < n→∃ Ai ni ci,vs[i]?=some (.slice Ai ni ci)∧w.ownsRow base 5 1 (.slice Ai ni ci) ni (ints .u8 (zss.getD i []))) (hz:∀ z ∈ zs,isByte z)
  (ho:w.ownsRow base 5 1 (.slice Ai ni ci) ni (ints .u8 zs)) (hg:w.grownBy w' (Value.slice A n c).ownBlock)
  (hown:w'.ownsRow base 42 1 (.slice A' (n + 1) c') (n + 1) (vs ++ [.slice Ai ni ci])):OwnTexts w' base A' (n + 1) c' (zss ++ [zs]):=by
 have hvl:vs.length=n:=by have:=hown0.1;omega
 have hkeep:∀ {A':Option Addr} {n' c':Nat} {xs:List Value},w.ownsRow base 5 1 (.slice A' n' c') n' xs→w'.ownsRow base 5 1 (.slice A' n' c') n' xs:=fun hx =>
  hx.kept hg (owns_other (by decide) hx hown0)
 refine ⟨_,hown,by simp [hl],?_,fun j hj=>?_⟩
 ·intro y hy z hzz
  rcases List.mem_append.1 hy with hy | hy
  ·exact hby y hy z hzz
  ·rw [List.mem_singleton] at hy
   subst hy
   exact hz z hzz
 ·by_cases e:j=n
  ·subst e
   refine ⟨Ai,ni,ci,by rw [List.getElem?_append_right (by omega)];simp [hvl],?_⟩
   have e2:(zss ++ [zs]).getD j []=zs:=by simp [List.getD_eq_getElem?_getD,hl]
   rw [e2]
   exact hkeep ho
  ·obtain ⟨Aj,nj,cj,hv,hoj⟩:=hin j (by omega)
   refine ⟨Aj,nj,cj,by rw [List.getElem?_append_left (by omega)];exact hv,?_⟩
   have e2:(zss ++ [zs]).getD j []=zss.getD j []:=by simp [List.getD_eq_getElem?_getD,List.getElem?_append_left (show j < zss.length by omega)]
   rw [e2]
   exact hkeep hoj
theorem run_text {P:Program} (w0 w:World) (t ty:TypeId) (i:TypeInfo) (z:Value) (ht:P.underlying t=some (.slice 42)) (hi:P.info? 42=some i) (hz:i.zero=some z)
  (hsize:i.size=1) (hby:i.bytes=24) (hzs:z.cells.size=1) (base:Nat) (A0:Option Addr) (n c0:Nat) (zss:List (List Int)) (hown:OwnTexts w base A0 n c0 zss)
  (Ai:Option Addr) (ni ci:Nat) (zs:List Int) (hb:∀ z ∈ zs,isByte z) (hoi:w.ownsRow base 5 1 (.slice Ai ni ci) ni (ints .u8 zs))
  (h63:n + 1≤maxLen) (hbytes:(n + 1) * 24≤140737488355328) (hbel:Below base w0 w) (hw0:base≤w0.heap.size) :
  ∃ A' c' w',(Builtin.append_ #[t,t] ty #[.slice A0 n c0,.slice (some ⟨w.heap.size,0,none⟩) 1 1]).run P (w.alloc (.cells #[.slice Ai ni ci] 42))=.ok (.slice A' (n + 1) c') w'∧OwnTexts w' base A' (n + 1) c' (zss ++ [zs])∧Below base w0 w':=by
 obtain ⟨vs,hv,hl,hby2,hin⟩:=hown
 have hb1:Below w.heap.size w (w.alloc (.cells #[.slice Ai ni ci] 42)):=(Below.refl _ _).alloc (Nat.le_refl _) _
 have hbase:base≤w.heap.size:=Nat.le_trans hw0 hbel.size
 have hseq:Seq (w.alloc (.cells #[.slice Ai ni ci] 42)) (w.heap.size + 1) (some ⟨w.heap.size,0,none⟩) [.slice Ai ni ci]:=by
  have h:=(Blk.new w 42 [.slice Ai ni ci]).seq 0 1
  exact h
 obtain ⟨v',w',hrun,hown',hg,_⟩:=run_app (P:=P) (w.alloc (.cells #[.slice Ai ni ci] 42)) base t ty 42 i z 24 ht hi hz hsize hby hzs _ n vs (hv.allocated _) _ _ 1 1 [.slice Ai ni ci] rfl hseq (by simp [Value.oneCell']) h63 hbytes (by simp;omega)
 obtain ⟨A',c',rfl⟩:=owns_slice hown'
 have hfin:OwnTexts w' base A' (n + 1) c' (zss ++ [zs]):=OwnTexts.snoc (hv.allocated _) hl hby2 (fun i hi=>by
  obtain ⟨Aj,nj,cj,e,hj⟩:=hin i hi
  exact ⟨Aj,nj,cj,e,hj.allocated _⟩) hb (hoi.allocated _) hg hown'
 exact ⟨A',c',w',hrun,hfin,(hbel.alloc hbase _).grown hg (by simp;omega) (fun g e=>(hv.lt g e).1)⟩
theorem wpList_text {P:Program} (w0 w:World) {ops:Array Oper} {rest:List Oper} {o:Oper} {a:Act} {Q:Exit→Act→World→Prop} (hw:Region.wanted o (yielded ops a.tmps)=true) (s x:Operand) (t:TypeId)
  (ho:o.op=.call { callee:=.builtin .append,args:=#[s,x],argTypes:=#[t,t] }) (i:TypeInfo) (z:Value) (ht:P.underlying t=some (.slice 42)) (hi:P.info? 42=some i) (hz:i.zero=some z)
  (hsize:i.size=1) (hby:i.bytes=24) (hzs:z.cells.size=1) (base:Nat) (A0:Option Addr) (n c0:Nat) (zss:List (List Int)) (hs:a.eval s=.slice A0 n c0) (hown:OwnTexts w base A0 n c0 zss)
  (Ai:Option Addr) (ni ci:Nat) (zs:List Int) (hb:∀ z ∈ zs,isByte z) (hoi:w.ownsRow base 5 1 (.slice Ai ni ci) ni (ints .u8 zs)) (hx:a.eval x=.slice (some ⟨w.heap.size,0,none⟩) 1 1)
  (h63:n + 1≤maxLen) (hbytes:(n + 1) * 24≤140737488355328) (hbel:Below base w0 w) (hw0:base≤w0.heap.size)
  (h:∀ A' c' w',OwnTexts w' base A' (n + 1) c' (zss ++ [zs])→Below base w0 w'→wpList P ops Q rest (a.put o.dst (.slice A' (n + 1) c')) w'):wpList P ops Q (o :: rest) a (w.alloc (.cells #[.slice Ai ni ci] 42)):=by
 refine wpList_want hw fun K hK=>?_
 obtain ⟨A',c',w',hrun,h2,h3⟩:=run_text (P:=P) w0 w t o.type i z ht hi hz hsize hby hzs base A0 n c0 zss hown Ai ni ci zs hb hoi h63 hbytes hbel hw0
 unfold Oper.wp execOp
 simp only [ho,resolve,invoke,builtin,Sem.run_bind,Sem.run_pure,Result.andThen_ok,List.map_toArray,List.map_cons,List.map_nil,hs,hx,hrun]
 exact hK _ _ (h A' c' w' h2 h3)
end Go.Proofs.YtifgcfepbenpjaaGreat
namespace Go.Proofs.YtifgcfepbenpjaaGreat
open Go.RowKit
theorem Arg.piece {w:World} {k:IntKind} {g o n c lo hi:Nat} {zs:List Int} (h:Arg w k (some ⟨g,o,none⟩) n c zs) (h1:lo≤hi) (h2:hi≤n):Arg w k (some ⟨g,o + lo,none⟩) (hi - lo) (c - lo) ((zs.drop lo).take (hi - lo)):=by
 refine ⟨?_,by rw [List.length_take,List.length_drop,h.len];omega,by have:=h.cap;omega,by have:=h.max;omega⟩
 have hs:ints k ((zs.drop lo).take (hi - lo))=((ints k zs).drop lo).take (hi - lo):=by simp [ints,List.map_take,List.map_drop]
 rw [hs]
 exact (h.seq.drop lo).take _
theorem chunk_piece {b:Txt} {k lo hi:Nat} (h1:lo=min (24 * k) b.length) (h2:hi=min (lo + 24) b.length):(b.drop lo).take (hi - lo)=chunk b k:=by
 unfold chunk
 rcases Nat.le_total (24 * k) b.length with h | h
 ·rw [Nat.min_eq_left h] at h1
  subst h1
  rcases Nat.le_total (24 * k + 24) b.length with h3 | h3
  ·rw [Nat.min_eq_left h3] at h2
   rw [h2,Nat.add_sub_cancel_left]
  ·rw [Nat.min_eq_right h3] at h2
   rw [List.take_of_length_le (by rw [List.length_drop];omega),List.take_of_length_le (by rw [List.length_drop];omega)]
 ·rw [Nat.min_eq_right h] at h1
  subst h1
  rw [List.drop_of_length_le (Nat.le_refl _),List.drop_of_length_le h]
  simp
theorem textsOf_succ (v:Int) (b:Txt) (k:Nat):textsOf v b (k + 1)=textsOf v b k ++ [partT v k (chunk b k)]:=by
 unfold textsOf
 rw [List.range_succ,List.map_append]
 rfl
theorem rparts_any (v:Int) (hv:0≤v∧v < 18446744073709551616) (A:Option Addr) (n c:Nat) (b:Txt) (m:Nat) (hm:m≤4) (w:World) (h:Arg w .u8 A n c b) (hn:n≤1000) (hby:∀ z ∈ b,isByte z) (hsp:∀ a,A=some a→a.spot=none∨c=0) :
  Calls Tryz.prog 170 #[.int .u64 v,.slice A n c,.int .i64 (m:Int)] w fun e w'=>∃ A' c',e=.returned (.slice A' m c')∧OwnTexts w' w.heap.size A' m c' (textsOf v b m)∧Below w.heap.size w w':=by
 obtain ⟨i1,hi1,hj0,hj1,hj2⟩:=info_parts texts_info
 have hml:(1000:Nat)≤maxLen:=by decide
 have HA:=Lh h
 have HV:=Lh hv
 have HBY:=Lh hby
 have HSP:=Lh hsp
 have HBL:=Lh h.len
 have hcc:=h.cap
 have hmx:=h.max
 unfold maxLen at hmx
 clear h hv hby hsp
 go_enter Tryz.func170,Tryz.ntmps170
 go_wp2
 go_loopw [7,8] (fun r i wr=>∃ (k:Nat) (A':Option Addr) (c':Nat),k≤m∧i=.int .i64 k∧r=.slice A' k c'∧OwnTexts wr w.heap.size A' k c' (textsOf v b k)∧Below w.heap.size w wr) (fun _ i _=>m - (intOf i).toNat)
 case atStart=>exact ⟨0,none,0,Nat.zero_le _,rfl,rfl,OwnTexts.nil _ _,Below.refl _ _⟩
 case round =>
  obtain ⟨k,A',c',hk,rfl,rfl,hown,hbel⟩:=hrel
  by_cases hkm:k < m
  ·have hki:(k:Int) < (m:Int):=by omega
   obtain ⟨lo,hlo⟩:∃ lo,lo=min (24 * k) n:=⟨_,rfl⟩
   obtain ⟨hi,hhi⟩:∃ hi,hi=min (lo + 24) n:=⟨_,rfl⟩
   have hl1:lo≤hi:=by omega
   have hl2:hi≤n:=by omega
   have hmin1:(if (n:Int) < (k:Int) * 24 then (n:Int) else (k:Int) * 24)=(lo:Int):=by split <;> omega
   have hmin2:(if (n:Int) < (lo:Int) + 24 then (n:Int) else (lo:Int) + 24)=(hi:Int):=by split <;> omega
   have O:=Lh hown
   have B:=Lh hbel
   have HCH:=Lh (chunk_piece (b:=b) (k:=k) (lo:=lo) (hi:=hi) (by rw [HBL.out];exact hlo) (by rw [HBL.out];exact hhi))
   have h24:hi - lo≤24:=by omega
   clear hown hbel hlo hhi
   have hk256:k < 256:=by omega
   have hlc:(lo:Int)≤(hi:Int):=by omega
   have hhc:(hi:Int)≤(c:Int):=by omega
   have hlo0:(0:Int)≤(lo:Int):=by omega
   have HCL:=Lh (show (chunk b k).length=hi - lo by rw [← HCH.out,List.length_take,List.length_drop,HBL.out];omega)
   cases A with
   | none =>
    by_cases hc3:lo < c
    ·have hc4:(lo:Int) < (c:Int):=by omega
     have HP:=Lh (show Arg w .u8 none (hi - lo) (c - lo) (chunk b k) from by
      have hn0:n=0:=by
       rcases Nat.eq_zero_or_pos n with h | h
       ·exact h
       ·obtain ⟨_,_,e,_,_⟩:=HA.out.seq.at_ (by rw [ints_length,HBL.out];exact h)
        cases e
      have h2:chunk b k=[]:=List.eq_nil_of_length_eq_zero (by have:=HCL.out;omega)
      rw [h2]
      exact ⟨Seq.empty,by simp;omega,by omega,by simp only [maxLen];omega⟩)
     go_wp2_with fail
     with_reducible refine (rpart_any v HV.out k hk256 _ _ _ (chunk b k) _ (HP.out.below B.out) h24).mono ?_
     rintro e w2 ⟨A2,c2,rfl,hown2,hb2⟩
     have hsz2:w.heap.size≤wr.heap.size:=B.out.size
     have O2:=Lh (O.out.below hb2)
     have P2:=Lh (owns_base hown2 hsz2)
     have HPB:=Lh (partT_byte v k (b:=chunk b k) (fun z hz=>HBY.out z (List.mem_of_mem_drop (List.mem_of_mem_take hz))))
     have B2:=Lh (B.out.trans (hb2.mono hsz2))
     have hkl:k + 1≤maxLen:=by omega
     clear hown2 hb2 hsz2 HP
     go_wp2_with (at_builtin;(refine wpList_text w _ rfl (.tmp 20) (.tmp 32) _ rfl i1 _ Tryz.underlying103 hi1 hj0 hj1 hj2 rfl w.heap.size A' k c' (textsOf v b k) rfl O2.out A2 32 c2 (partT v k (chunk b k)) HPB.out P2.out rfl hkl (by omega) B2.out (Nat.le_refl _) ?_);intro A3 c3 w3 hO3 hB3;have O3:=Lh hO3;have B3:=Lh hB3;clear hO3 hB3)
     go_roundw
     case rel=>exact ⟨k + 1,A3,c3,by omega,by go_num,rfl,by rw [textsOf_succ];exact O3.out,B3.out⟩
     case measure=>simp [intOf];omega
    ·have hlc2:lo=c:=by omega
     have hz:hi - lo=0:=by omega
     have hz2:c - lo=0:=by omega
     have hc4:¬ (lo:Int) < (c:Int):=by omega
     have HP:=Lh (show Arg w .u8 none 0 0 (chunk b k) from by
      have h2:chunk b k=[]:=List.eq_nil_of_length_eq_zero (by have:=HCL.out;omega)
      rw [h2]
      exact ⟨Seq.empty,rfl,Nat.le_refl _,Nat.zero_le _⟩)
     go_wp2_with fail
     with_reducible refine (rpart_any v HV.out k hk256 _ _ _ (chunk b k) _ (HP.out.below B.out) (Nat.zero_le 24)).mono ?_
     rintro e w2 ⟨A2,c2,rfl,hown2,hb2⟩
     have hsz2:w.heap.size≤wr.heap.size:=B.out.size
     have O2:=Lh (O.out.below hb2)
     have P2:=Lh (owns_base hown2 hsz2)
     have HPB:=Lh (partT_byte v k (b:=chunk b k) (fun z hz=>HBY.out z (List.mem_of_mem_drop (List.mem_of_mem_take hz))))
     have B2:=Lh (B.out.trans (hb2.mono hsz2))
     have hkl:k + 1≤maxLen:=by omega
     clear hown2 hb2 hsz2 HP
     go_wp2_with (at_builtin;(refine wpList_text w _ rfl (.tmp 20) (.tmp 32) _ rfl i1 _ Tryz.underlying103 hi1 hj0 hj1 hj2 rfl w.heap.size A' k c' (textsOf v b k) rfl O2.out A2 32 c2 (partT v k (chunk b k)) HPB.out P2.out rfl hkl (by omega) B2.out (Nat.le_refl _) ?_);intro A3 c3 w3 hO3 hB3;have O3:=Lh hO3;have B3:=Lh hB3;clear hO3 hB3)
     go_roundw
     case rel=>exact ⟨k + 1,A3,c3,by omega,by go_num,rfl,by rw [textsOf_succ];exact O3.out,B3.out⟩
     case measure=>simp [intOf];omega
   | some a =>
    obtain ⟨g,o,s⟩:=a
    by_cases hc3:lo < c
    ·have hc4:(lo:Int) < (c:Int):=by omega
     have hs:s=none:=by
      rcases HSP.out _ rfl with h | h
      ·exact h
      ·omega
     subst hs
     have HP:=Lh (HA.out.piece hl1 hl2)
     rw [HCH.out] at HP
     go_wp2_with fail
     with_reducible refine (rpart_any v HV.out k hk256 _ _ _ (chunk b k) _ (HP.out.below B.out) h24).mono ?_
     rintro e w2 ⟨A2,c2,rfl,hown2,hb2⟩
     have hsz2:w.heap.size≤wr.heap.size:=B.out.size
     have O2:=Lh (O.out.below hb2)
     have P2:=Lh (owns_base hown2 hsz2)
     have HPB:=Lh (partT_byte v k (b:=chunk b k) (fun z hz=>HBY.out z (List.mem_of_mem_drop (List.mem_of_mem_take hz))))
     have B2:=Lh (B.out.trans (hb2.mono hsz2))
     have hkl:k + 1≤maxLen:=by omega
     clear hown2 hb2 hsz2 HP
     go_wp2_with (at_builtin;(refine wpList_text w _ rfl (.tmp 20) (.tmp 32) _ rfl i1 _ Tryz.underlying103 hi1 hj0 hj1 hj2 rfl w.heap.size A' k c' (textsOf v b k) rfl O2.out A2 32 c2 (partT v k (chunk b k)) HPB.out P2.out rfl hkl (by omega) B2.out (Nat.le_refl _) ?_);intro A3 c3 w3 hO3 hB3;have O3:=Lh hO3;have B3:=Lh hB3;clear hO3 hB3)
     go_roundw
     case rel=>exact ⟨k + 1,A3,c3,by omega,by go_num,rfl,by rw [textsOf_succ];exact O3.out,B3.out⟩
     case measure=>simp [intOf];omega
    ·have hlc2:lo=c:=by omega
     have hz:hi - lo=0:=by omega
     have hz2:c - lo=0:=by omega
     have hc4:¬ (lo:Int) < (c:Int):=by omega
     have HP:=Lh (show Arg w .u8 (some ⟨g,o,s⟩) 0 0 (chunk b k) from by
      have h2:chunk b k=[]:=List.eq_nil_of_length_eq_zero (by have:=HCL.out;omega)
      rw [h2]
      exact ⟨Seq.empty,rfl,Nat.le_refl _,Nat.zero_le _⟩)
     go_wp2_with fail
     with_reducible refine (rpart_any v HV.out k hk256 _ _ _ (chunk b k) _ (HP.out.below B.out) (Nat.zero_le 24)).mono ?_
     rintro e w2 ⟨A2,c2,rfl,hown2,hb2⟩
     have hsz2:w.heap.size≤wr.heap.size:=B.out.size
     have O2:=Lh (O.out.below hb2)
     have P2:=Lh (owns_base hown2 hsz2)
     have HPB:=Lh (partT_byte v k (b:=chunk b k) (fun z hz=>HBY.out z (List.mem_of_mem_drop (List.mem_of_mem_take hz))))
     have B2:=Lh (B.out.trans (hb2.mono hsz2))
     have hkl:k + 1≤maxLen:=by omega
     clear hown2 hb2 hsz2 HP
     go_wp2_with (at_builtin;(refine wpList_text w _ rfl (.tmp 20) (.tmp 32) _ rfl i1 _ Tryz.underlying103 hi1 hj0 hj1 hj2 rfl w.heap.size A' k c' (textsOf v b k) rfl O2.out A2 32 c2 (partT v k (chunk b k)) HPB.out P2.out rfl hkl (by omega) B2.out (Nat.le_refl _) ?_);intro A3 c3 w3 hO3 hB3;have O3:=Lh hO3;have B3:=Lh hB3;clear hO3 hB3)
     go_roundw
     case rel=>exact ⟨k + 1,A3,c3,by omega,by go_num,rfl,by rw [textsOf_succ];exact O3.out,B3.out⟩
     case measure=>simp [intOf];omega
  ·obtain rfl:k=m:=by omega
   have O:=Lh hown
   have B:=Lh hbel
   clear hown hbel
   go_wp2
   go_ret
   exact ⟨A',c',rfl,O.out,B.out⟩
end Go.Proofs.YtifgcfepbenpjaaGreat
namespace Go.Proofs.YtifgcfepbenpjaaGreat
theorem held_parts {l:List (Option Txt)}:∀ (k:Nat) (ps:List Prt),heldTo l k=some ps→∀ i,i < k→∃ T,l.getD i none=some T∧verOf T≠0∧manyOf T≤24∧T=partT (verOf T) i (partB T)∧ps.getD i (0,[])=(verOf T,partB T):=by
 intro k
 induction k with
 | zero=>intro ps _ i hi;omega
 | succ k ih =>
  intro ps h i hi
  rw [heldTo] at h
  rcases h1:heldTo l k with _ | qs
  ·rw [h1] at h;cases h
  ·rw [h1] at h
   dsimp only at h
   rcases h2:partO k (l.getD k none) with _ | p
   ·rw [h2] at h;cases h
   ·rw [h2] at h
    dsimp only at h
    split at h
    ·injection h with h
     subst h
     have hl:=(heldTo_small h1).1
     rcases Nat.lt_or_ge i k with hik | hik
     ·obtain ⟨T,e1,e2,e3,e4,e5⟩:=ih qs h1 i hik
      refine ⟨T,e1,e2,e3,e4,?_⟩
      rw [← e5,gtD,gtD,List.getElem?_append_left (by omega)]
     ·obtain rfl:i=k:=by omega
      rcases h3:l.getD i none with _ | T
      ·rw [h3] at h2;cases h2
      ·rw [h3] at h2
       unfold partO at h2
       dsimp only at h2
       split at h2
       ·rename_i hok
        injection h2 with h2
        subst h2
        unfold partOk at hok
        simp only [Bool.and_eq_true,decide_eq_true_eq] at hok
        refine ⟨T,rfl,hok.1.1,hok.1.2,hok.2,?_⟩
        rw [gtD,List.getElem?_append_right (by omega),hl]
        simp
       ·cases h2
    ·cases h
theorem chunk_app {b c:Txt} {k i:Nat} (h:b.length=24 * k) (hi:i < k):chunk (b ++ c) i=chunk b i:=by
 unfold chunk
 rw [List.drop_append_of_le_length (by omega),List.take_append_of_le_length (by rw [List.length_drop];omega)]
theorem chunk_last {b c:Txt} {k:Nat} (h:b.length=24 * k) (hc:c.length≤24):chunk (b ++ c) k=c:=by
 unfold chunk
 rw [← h,List.drop_left,List.take_of_length_le hc]
theorem held_chunks {l:List (Option Txt)}:∀ (k:Nat) (ps:List Prt),heldTo l k=some ps →
  (joinB ps).length≤24 * k∧(∀ i,i < k→chunk (joinB ps) i=(ps.getD i (0,[])).2)∧((joinB ps).length=24 * k∨(0 < k∧(ps.getD (k - 1) (0,[])).2.length < 24)):=by
 intro k
 induction k with
 | zero =>
  intro ps h
  rw [heldTo] at h
  injection h with h
  subst h
  exact ⟨Nat.le_refl _,fun i hi=>by omega,.inl rfl⟩
 | succ k ih =>
  intro ps h
  have hall:=(heldTo_small h).2
  rw [heldTo] at h
  rcases h1:heldTo l k with _ | qs
  ·rw [h1] at h;cases h
  ·rw [h1] at h
   dsimp only at h
   rcases h2:partO k (l.getD k none) with _ | p
   ·rw [h2] at h;cases h
   ·rw [h2] at h
    dsimp only at h
    split at h
    ·rename_i hf
     injection h with h
     subst h
     have hl:=(heldTo_small h1).1
     obtain ⟨g1,g2,g3⟩:=ih qs h1
     have hp24:p.2.length≤24:=hall p (by simp)
     have hlast:(qs ++ [p]).getD (k + 1 - 1) (0,[])=p:=by rw [Nat.add_sub_cancel,gtD,List.getElem?_append_right (by omega),hl];simp
     have hget:∀ i,i < k→(qs ++ [p]).getD i (0,[])=qs.getD i (0,[]):=fun i hi=>by rw [gtD,gtD,List.getElem?_append_left (by omega)]
     have hk:(qs ++ [p]).getD k (0,[])=p:=by rw [gtD,List.getElem?_append_right (by omega),hl];simp
     rw [joinB_snoc,hlast]
     rcases g3 with g3 | ⟨g3,g4⟩
     ·refine ⟨by rw [List.length_append];omega,fun i hi=>?_,?_⟩
      ·rcases Nat.lt_or_ge i k with hik | hik
       ·rw [chunk_app g3 hik,hget i hik];exact g2 i hik
       ·obtain rfl:i=k:=by omega
        rw [chunk_last g3 hp24,hk]
      ·rw [List.length_append]
       rcases Nat.lt_or_ge p.2.length 24 with h | h
       ·exact .inr ⟨Nat.succ_pos _,h⟩
       ·exact .inl (by omega)
     ·have hp0:p.2=[]:=by
       rcases hf with hf | hf
       ·omega
       ·rcases hf.2 with h | h
        ·exact List.eq_nil_of_length_eq_zero h
        ·omega
      rw [hp0,List.append_nil]
      refine ⟨by omega,fun i hi=>?_,.inr ⟨Nat.succ_pos _,by simp⟩⟩
      rcases Nat.lt_or_ge i k with hik | hik
      ·rw [hget i hik];exact g2 i hik
      ·obtain rfl:i=k:=by omega
       rw [hk,hp0]
       unfold chunk
       rw [List.drop_of_length_le (by omega)]
       rfl
    ·cases h
def tsF (f:Nat→Txt) (k:Nat):List Txt:=(List.range k).map f
def acF (f:Nat→Txt) (k:Nat):Txt:=((List.range k).map fun i=>partB (f i)).flatten
theorem tsF_get (f:Nat→Txt) {k i:Nat} (h:i < k):(tsF f k).getD i []=f i:=range_get f [] h
theorem tsF_succ (f:Nat→Txt) (k:Nat):tsF f (k + 1)=tsF f k ++ [f k]:=by unfold tsF;rw [List.range_succ,List.map_append];rfl
theorem acF_succ (f:Nat→Txt) (k:Nat):acF f (k + 1)=acF f k ++ partB (f k):=by unfold acF;rw [List.range_succ,List.map_append,List.flatten_append];simp
theorem acF_byte {f:Nat→Txt} {k:Nat} (h:∀ i,i < k→∀ z ∈ f i,isByte z):∀ z ∈ acF f k,isByte z:=by
 intro z hz
 unfold acF at hz
 obtain ⟨t,ht,hz⟩:=List.mem_flatten.1 hz
 obtain ⟨i,hi,rfl⟩:=List.mem_map.1 ht
 exact partB_byte (h i (List.mem_range.1 hi)) z hz
theorem acF_len {f:Nat→Txt}:∀ k,(∀ i,i < k→(partB (f i)).length≤24)→(acF f k).length≤24 * k
 | 0,_=>by simp [acF]
 | k + 1,h=>by
  rw [acF_succ,List.length_append]
  have:=acF_len k fun i hi=>h i (by omega)
  have:=h k (by omega)
  omega
theorem joinB_acF {f:Nat→Txt} {ps:List Prt} {k:Nat} (hl:ps.length=k) (h:∀ i,i < k→(ps.getD i (0,[])).2=partB (f i)):joinB ps=acF f k:=by
 unfold joinB acF
 congr 1
 refine list_eq (d:=[]) (by simp [hl]) (by simp) (n:=k) fun i hi=>?_
 rw [range_get _ _ hi,← h i hi,gtD,List.getElem?_map,gtD,geE (by omega)]
 simp
theorem slot_bad {l:List (Option Txt)} {k:Nat} (hk:k < l.length) (h:l.getD k none=none∨∃ T,l.getD k none=some T∧24 < manyOf T):slotV l=0:=by
 unfold slotV
 rcases h1:heldTo l l.length with _ | ps
 ·rfl
 ·exfalso
  obtain ⟨T,e1,e2,e3,_⟩:=held_parts _ _ h1 k hk
  rcases h with h | ⟨U,h,h2⟩
  ·rw [h] at e1;cases e1
  ·rw [h] at e1;injection e1 with e1;subst e1;omega
theorem slot_all {l:List (Option Txt)} {f:Nat→Txt} {m:Nat} (hm:1≤m) (hl:l.length=m) (hf:∀ i,i < m→l.getD i none=some (f i)) (hs:∀ i,i < m→(f i).length=32∧∀ z ∈ f i,isByte z) (h24:∀ i,i < m→manyOf (f i)≤24) :
  ((∀ i,i < m→f i=partT (verOf (f 0)) i (chunk (acF f m) i))→slotV l=verOf (f 0)∧(slotV l≠0→acF f m=slotB l))∧((∃ i,i < m∧f i≠partT (verOf (f 0)) i (chunk (acF f m) i))→slotV l=0):=by
 have hlen:∀ i,i < m→(partB (f i)).length≤24:=fun i hi=>by
  have:=partB_length (hs i hi).1 (hs i hi).2 (h24 i hi)
  have:=h24 i hi
  omega
 have hv:=ver_bounds (t:=f 0) (by rw [(hs 0 (by omega)).1];omega) (hs 0 (by omega)).2
 constructor
 ·intro hall
  by_cases h0:verOf (f 0)=0
  ·have hz:slotV l=0:=by
    unfold slotV
    rcases h1:heldTo l l.length with _ | ps
    ·rfl
    ·exfalso
     obtain ⟨T,e1,e2,_⟩:=held_parts _ _ h1 0 (by omega)
     rw [hf 0 (by omega)] at e1
     injection e1 with e1
     subst e1
     exact e2 h0
   exact ⟨by rw [hz,h0],fun h=>absurd hz h⟩
  ·obtain ⟨e1,e2⟩:=slot_new (l:=l) (v:=verOf (f 0)) (b:=acF f m) (m:=m) ⟨by omega,hv.2⟩ hm hl (acF_len m hlen) (fun i hi=>by rw [hf i hi,← hall i hi])
   exact ⟨e1,fun _=>e2.symm⟩
 ·rintro ⟨i,hi,hne⟩
  unfold slotV
  rcases h1:heldTo l l.length with _ | ps
  ·rfl
  ·exfalso
   rw [hl] at h1
   have hps:=(heldTo_small h1).1
   have hp:=held_parts _ _ h1
   obtain ⟨_,hc,_⟩:=held_chunks _ _ h1
   have hpi:∀ j,j < m→ps.getD j (0,[])=(verOf (f j),partB (f j))∧f j=partT (verOf (f j)) j (partB (f j)):=fun j hj=>by
    obtain ⟨T,e1,e2,e3,e4,e5⟩:=hp j hj
    rw [hf j hj] at e1
    injection e1 with e1
    subst e1
    exact ⟨e5,e4⟩
   have hj:joinB ps=acF f m:=joinB_acF hps fun j hj=>by rw [(hpi j hj).1]
   obtain ⟨U,u1,u2⟩:=held_one _ _ h1 i hi
   obtain ⟨Z,z1,z2⟩:=held_one _ _ h1 0 (by omega)
   rw [hf i hi] at u1
   injection u1 with u1
   subst u1
   rw [hf 0 (by omega)] at z1
   injection z1 with z1
   subst z1
   refine hne ?_
   have e1:=(hpi i hi).2
   have e2:=hc i hi
   rw [hj,(hpi i hi).1] at e2
   rw [z2,← u2,e2]
   exact e1
end Go.Proofs.YtifgcfepbenpjaaGreat
namespace Go.Proofs.YtifgcfepbenpjaaGreat
open Go.RowKit
def RowsBut (w:World) (base:Nat) (A:Option Addr) (n c:Nat) (zss:List (List Int)) (row:Option Nat):Prop :=
 ∃ vs:List Value,w.ownsRow base 42 1 (.slice A n c) n vs∧zss.length=n∧(∀ zs ∈ zss,∀ z ∈ zs,isByte z) ∧
  ∀ i,i < n→∃ Ai ni ci,vs[i]?=some (.slice Ai ni ci)∧w.ownsRow base 5 1 (.slice Ai ni ci) ni (ints .u8 (zss.getD i []))∧((Value.slice Ai ni ci).ownBlock=none∨(Value.slice Ai ni ci).ownBlock≠row)
theorem RowsBut.own {w:World} {base:Nat} {A:Option Addr} {n c:Nat} {zss:List (List Int)} {row:Option Nat} (h:RowsBut w base A n c zss row):OwnTexts w base A n c zss:=by
 obtain ⟨vs,h1,h2,h3,h4⟩:=h
 exact ⟨vs,h1,h2,h3,fun i hi=>by obtain ⟨a,b,c,e,o,_⟩:=h4 i hi;exact ⟨a,b,c,e,o⟩⟩
theorem RowsBut.nil (w:World) (base:Nat) (row:Option Nat):RowsBut w base none 0 0 [] row:=⟨[],World.ownsRow_nil _ _ _ _,rfl,by simp,fun i hi=>by omega⟩
theorem RowsBut.below {w w':World} {base:Nat} {A:Option Addr} {n c:Nat} {zss:List (List Int)} {row:Option Nat} (h:RowsBut w base A n c zss row) (hb:Below w.heap.size w w'):RowsBut w' base A n c zss row:=by
 obtain ⟨vs,h1,h2,h3,h4⟩:=h
 exact ⟨vs,owns_below h1 hb,h2,h3,fun i hi=>by obtain ⟨a,b,c,e,o,r⟩:=h4 i hi;exact ⟨a,b,c,e,owns_below o hb,r⟩⟩
theorem RowsBut.grown {w w':World} {base:Nat} {A B B':Option Addr} {n c m k k' c':Nat} {zss:List (List Int)} {xs:List Value} (h:RowsBut w base A n c zss (Value.slice B m k).ownBlock) (hb:w.ownsRow base 5 1 (.slice B m k) m xs)
  (hg:w.grownBy w' (Value.slice B m k).ownBlock) (ho:(Value.slice B' k' c').ownBlock=(Value.slice B m k).ownBlock∨(Value.slice B' k' c').ownBlock=some w.heap.size):RowsBut w' base A n c zss (Value.slice B' k' c').ownBlock:=by
 obtain ⟨vs,h1,h2,h3,h4⟩:=h
 refine ⟨vs,h1.kept hg (owns_other (by decide) h1 hb),h2,h3,fun i hi=>?_⟩
 obtain ⟨a,b,d,e,o,r⟩:=h4 i hi
 refine ⟨a,b,d,e,o.kept hg r,?_⟩
 rcases ho with ho | ho
 ·rw [ho];exact r
 ·rw [ho]
  rcases o.2 with ⟨e2,_⟩ | ⟨g,cap,cur,e2,_,hg2,_⟩ <;> cases e2
  ·exact .inl rfl
  ·refine .inr fun e3=>?_
   have e4:g=w.heap.size:=by simpa [Value.ownBlock] using e3
   have:=(Array.getElem?_eq_some_iff.1 hg2).1
   omega
theorem run_rows {P:Program} (w0 w:World) (t ty:TypeId) (i:TypeInfo) (z:Value) (ht:P.underlying t=some (.slice 42)) (hi:P.info? 42=some i) (hz:i.zero=some z)
  (hsize:i.size=1) (hby:i.bytes=24) (hzs:z.cells.size=1) (base:Nat) (A0:Option Addr) (n c0:Nat) (zss:List (List Int)) (row:Option Nat) (hown:RowsBut w base A0 n c0 zss row)
  (Ai:Option Addr) (ni ci:Nat) (zs:List Int) (hb:∀ z ∈ zs,isByte z) (hoi:w.ownsRow base 5 1 (.slice Ai ni ci) ni (ints .u8 zs)) (hrow:(Value.slice Ai ni ci).ownBlock=none∨(Value.slice Ai ni ci).ownBlock≠row)
  (h63:n + 1≤maxLen) (hbytes:(n + 1) * 24≤140737488355328) (hbel:Below base w0 w) (hw0:base≤w0.heap.size) :
  ∃ A' c' w',(Builtin.append_ #[t,t] ty #[.slice A0 n c0,.slice (some ⟨w.heap.size,0,none⟩) 1 1]).run P (w.alloc (.cells #[.slice Ai ni ci] 42))=.ok (.slice A' (n + 1) c') w'∧RowsBut w' base A' (n + 1) c' (zss ++ [zs]) row∧Below base w0 w' ∧
   ∀ (X:Option Addr) (nx cx:Nat) (xs:List Value),w.ownsRow base 5 1 (.slice X nx cx) nx xs→w'.ownsRow base 5 1 (.slice X nx cx) nx xs:=by
 obtain ⟨vs,hv,hl,hby2,hin⟩:=hown
 have hb1:Below w.heap.size w (w.alloc (.cells #[.slice Ai ni ci] 42)):=(Below.refl _ _).alloc (Nat.le_refl _) _
 have hbase:base≤w.heap.size:=Nat.le_trans hw0 hbel.size
 have hseq:Seq (w.alloc (.cells #[.slice Ai ni ci] 42)) (w.heap.size + 1) (some ⟨w.heap.size,0,none⟩) [.slice Ai ni ci]:=by
  have h:=(Blk.new w 42 [.slice Ai ni ci]).seq 0 1
  exact h
 obtain ⟨v',w',hrun,hown',hg,_⟩:=run_app (P:=P) (w.alloc (.cells #[.slice Ai ni ci] 42)) base t ty 42 i z 24 ht hi hz hsize hby hzs _ n vs (hv.allocated _) _ _ 1 1 [.slice Ai ni ci] rfl hseq (by simp [Value.oneCell']) h63 hbytes (by simp;omega)
 obtain ⟨A',c',rfl⟩:=owns_slice hown'
 have hvl:vs.length=n:=by have:=hv.1;omega
 have hkeep:∀ {X:Option Addr} {nx cx:Nat} {xs:List Value},w.ownsRow base 5 1 (.slice X nx cx) nx xs→w'.ownsRow base 5 1 (.slice X nx cx) nx xs:=fun hx =>
  (hx.allocated _).kept hg (owns_other (w:=w) (by decide) hx hv)
 refine ⟨A',c',w',hrun,⟨_,hown',by simp [hl],?_,fun j hj=>?_⟩,(hbel.alloc hbase _).grown hg (by simp;omega) (fun g e=>(hv.lt g e).1),fun X nx cx xs hx=>hkeep hx⟩
 ·intro y hy z hzz
  rcases List.mem_append.1 hy with hy | hy
  ·exact hby2 y hy z hzz
  ·rw [List.mem_singleton] at hy
   subst hy
   exact hb z hzz
 ·by_cases e:j=n
  ·subst e
   refine ⟨Ai,ni,ci,by rw [List.getElem?_append_right (by omega)];simp [hvl],?_,hrow⟩
   have e2:(zss ++ [zs]).getD j []=zs:=by simp [List.getD_eq_getElem?_getD,hl]
   rw [e2]
   exact hkeep hoi
  ·obtain ⟨Aj,nj,cj,hvj,hoj,hrj⟩:=hin j (by omega)
   refine ⟨Aj,nj,cj,by rw [List.getElem?_append_left (by omega)];exact hvj,?_,hrj⟩
   have e2:(zss ++ [zs]).getD j []=zss.getD j []:=by simp [List.getD_eq_getElem?_getD,List.getElem?_append_left (show j < zss.length by omega)]
   rw [e2]
   exact hkeep hoj
theorem wpList_rows {P:Program} (w0 w:World) {ops:Array Oper} {rest:List Oper} {o:Oper} {a:Act} {Q:Exit→Act→World→Prop} (hw:Region.wanted o (yielded ops a.tmps)=true) (s x:Operand) (t:TypeId)
  (ho:o.op=.call { callee:=.builtin .append,args:=#[s,x],argTypes:=#[t,t] }) (i:TypeInfo) (z:Value) (ht:P.underlying t=some (.slice 42)) (hi:P.info? 42=some i) (hz:i.zero=some z)
  (hsize:i.size=1) (hby:i.bytes=24) (hzs:z.cells.size=1) (base:Nat) (A0:Option Addr) (n c0:Nat) (zss:List (List Int)) (row:Option Nat) (hs:a.eval s=.slice A0 n c0) (hown:RowsBut w base A0 n c0 zss row)
  (Ai:Option Addr) (ni ci:Nat) (zs:List Int) (hb:∀ z ∈ zs,isByte z) (hoi:w.ownsRow base 5 1 (.slice Ai ni ci) ni (ints .u8 zs)) (hrow:(Value.slice Ai ni ci).ownBlock=none∨(Value.slice Ai ni ci).ownBlock≠row) (hx:a.eval x=.slice (some ⟨w.heap.size,0,none⟩) 1 1)
  (h63:n + 1≤maxLen) (hbytes:(n + 1) * 24≤140737488355328) (hbel:Below base w0 w) (hw0:base≤w0.heap.size)
  (h:∀ A' c' w',RowsBut w' base A' (n + 1) c' (zss ++ [zs]) row→Below base w0 w'→(∀ (X:Option Addr) (nx cx:Nat) (xs:List Value),w.ownsRow base 5 1 (.slice X nx cx) nx xs→w'.ownsRow base 5 1 (.slice X nx cx) nx xs)→wpList P ops Q rest (a.put o.dst (.slice A' (n + 1) c')) w'):wpList P ops Q (o :: rest) a (w.alloc (.cells #[.slice Ai ni ci] 42)):=by
 refine wpList_want hw fun K hK=>?_
 obtain ⟨A',c',w',hrun,h2,h3,h4⟩:=run_rows (P:=P) w0 w t o.type i z ht hi hz hsize hby hzs base A0 n c0 zss row hown Ai ni ci zs hb hoi hrow h63 hbytes hbel hw0
 unfold Oper.wp execOp
 simp only [ho,resolve,invoke,builtin,Sem.run_bind,Sem.run_pure,Result.andThen_ok,List.map_toArray,List.map_cons,List.map_nil,hs,hx,hrun]
 exact hK _ _ (h A' c' w' h2 h3 h4)
theorem optAt_got {S:List Sec} {C:List Pnd} {a:Int} (hm:mayD S C=true) (h0:0≤a) (h1:a < (S.length:Int)):optAt S C a=if gotOk S C a=true then some (gotB S C a) else none:=by
 have ha:askE S C a=0:=by unfold askE;rw [if_pos hm,if_neg (by omega)]
 unfold optAt rdB rdE
 rw [if_pos ha]
 by_cases h:gotOk S C a=true
 ·rw [if_pos h,if_pos h];simp
 ·rw [if_neg h,if_neg h];simp
def HeldOut (w:World) (l:List (Option Txt)) (e:Ending) (w':World):Prop :=
 ∃ A c B,e=.returned (.tuple #[.slice A B.length c,.int .u64 (slotV l)])∧w'.ownsRow w.heap.size 5 1 (.slice A B.length c) B.length (ints .u8 B)∧(slotV l≠0→B=slotB l)∧Below w.heap.size w w'
theorem HeldOut.nothing {w w':World} {l:List (Option Txt)} (h:slotV l=0) (hb:Below w.heap.size w w'):HeldOut w l (.returned (.tuple #[.slice none 0 0,.int .u64 0])) w' :=
 ⟨none,0,[],by rw [h];rfl,World.ownsRow_nil _ _ _ _,fun h2=>absurd h h2,hb⟩
theorem rheld_any (A:Option Addr) (n c:Nat) (A':Option Addr) (n' c':Nat) (S:List Sec) (C:List Pnd) (a m:Nat) (w:World) (hq:Dsk w A n c A' n' c' S C) (hs:SmallD S C) (hmay:mayD S C=true) (hm1:1≤m) (hm4:m≤4) (han:a + m≤n) :
  Calls Tryz.prog 168 #[diskV A n c A' n' c',.int .i64 (a:Int),.int .i64 (m:Int)] w (HeldOut w (optsOf S C a m)):=by
 obtain ⟨i0,hi0,hz0,hz1,hz2⟩:=info_parts byte_info
 obtain ⟨i1,hi1,hj0,hj1,hj2⟩:=info_parts texts_info
 have hml:(1000:Nat)≤maxLen:=by decide
 have hb0:Below w.heap.size w (w.alloc (.cells #[.slice A n c,.slice A' n' c'] 25)):=(Below.refl _ _).alloc (Nat.le_refl _) _
 have x:=DBox.new hq
 obtain ⟨w1,hW⟩:∃ x:World,x=w.alloc (.cells #[.slice A n c,.slice A' n' c'] 25):=⟨_,rfl⟩
 rw [← hW] at hb0 x
 have hsl:=hq.secs.len
 have hn100:n≤300:=by have:=hs.secs;omega
 obtain ⟨f,hf⟩:∃ f:Nat→Txt,f=fun i:Nat=>gotB S C ((a:Int) + (i:Int)):=⟨_,rfl⟩
 have hopt:∀ i,i < m→(optsOf S C a m).getD i none=if gotOk S C ((a:Int) + (i:Int))=true then some (f i) else none:=fun i hi=>by
  rw [optsOf_get S C a hi,optAt_got hmay (by omega) (by omega),hf]
 have hgood:∀ i,i < m→gotOk S C ((a:Int) + (i:Int))=true→(f i).length=32∧∀ z ∈ f i,isByte z:=fun i hi h=>by
  have ha:askE S C ((a:Int) + (i:Int))=0:=by unfold askE;rw [if_pos hmay,if_neg (by omega)]
  have hr:rdE S C ((a:Int) + (i:Int))=0:=by unfold rdE;rw [if_pos ha,if_pos h]
  have hb:rdB S C ((a:Int) + (i:Int))=f i:=by unfold rdB;rw [if_pos hr,hf]
  rw [← hb]
  exact rd_good hr hq.secs.byte hq.pnds.byte
 have GOT:=Lh (fun i (hi:i < m) wx (hx:Dsk wx A n c A' n' c' S C)=>got_any A n c A' n' c' S C (a + i) wx hx hs (by omega))
 have hllen:(optsOf S C a m).length=m:=optsOf_length _ _ _ _
 obtain ⟨l,hl⟩:∃ l,l=optsOf S C a m:=⟨_,rfl⟩
 rw [← hl] at hopt hllen ⊢
 have OPT:=Lh hopt
 have GOOD:=Lh hgood
 have LL:=Lh hllen
 have HF:=Lh hf
 have X:=Lh x
 have B0:=Lh hb0
 obtain ⟨c0,c1⟩:=x.cells
 clear hq hs hmay x hb0 hopt hgood hllen hf hl hsl
 go_enter Tryz.func168,Tryz.ntmps168
 go_upto_region 1 with fail
 rw [← hW]
 clear hW
 go_wp2
 clear c0 c1
 go_loopw [8,9,10] (fun all bs i wr=>∃ (k:Nat) (A8:Option Addr) (c8:Nat) (A9:Option Addr) (c9:Nat),k≤m∧i=.int .i64 k∧all=.slice A8 k c8∧bs=.slice A9 (acF f k).length c9∧RowsBut wr w1.heap.size A8 k c8 (tsF f k) (Value.slice A9 (acF f k).length c9).ownBlock∧wr.ownsRow w1.heap.size 5 1 (.slice A9 (acF f k).length c9) (acF f k).length (ints .u8 (acF f k))∧(∀ y,y < k→gotOk S C ((a:Int) + (y:Int))=true∧manyOf (f y)≤24)∧Below w1.heap.size w1 wr) (fun _ _ i _=>m - (intOf i).toNat)
 case atStart=>exact ⟨0,none,0,none,0,Nat.zero_le _,rfl,rfl,rfl,RowsBut.nil _ _ _,World.ownsRow_nil _ _ _ _,fun y hy=>by omega,Below.refl _ _⟩
 case round =>
  obtain ⟨k,A8,c8,A9,c9,hk,rfl,rfl,rfl,hrows,hown,hall,hbel⟩:=hrel
  have hx:=X.out.below hbel
  have hlen24:∀ y,y < k→(partB (f y)).length≤24:=fun y hy=>by
   have h1:=GOOD.out y (by omega) (hall y hy).1
   have h2:=partB_length h1.1 h1.2 (hall y hy).2
   have:=(hall y hy).2
   omega
  have hac:=acF_len (f:=f) k hlen24
  by_cases hkm:k < m
  ·have hki:(k:Int) < (m:Int):=by omega
   have B:=Lh hbel
   have RW:=Lh hrows
   have OB:=Lh hown
   have ALL:=Lh hall
   obtain ⟨c0,c1⟩:=hx.cells
   have K:=Lh (GOT.out k hkm wr hx.dsk)
   rw [show ((a + k:Nat):Int)=(a:Int) + (k:Int) from by omega] at K
   have hfk:gotB S C ((a:Int) + (k:Int))=f k:=by rw [HF.out]
   rw [hfk] at K
   have OK:=Lh (OPT.out k hkm)
   have GK:=Lh (GOOD.out k hkm)
   clear hx hbel hrows hown hall hfk hlen24
   go_wp2_with fail
   refine K.out.mono ?_
   rintro e w3 ⟨A3,c3,rfl,hown3,hb3⟩
   have hb13:=B.out.trans (hb3.mono B.out.size)
   have B3:=Lh hb13
   have RW3:=Lh (RW.out.below hb3)
   have OB3:=Lh (owns_below OB.out hb3)
   cases hG:gotOk S C ((a:Int) + (k:Int)) with
   | false =>
    have HZ:=Lh (slot_bad (l:=l) (k:=k) (by rw [LL.out];exact hkm) (.inl (by rw [OK.out,hG];rfl)))
    clear hown3 hb3 hb13 hG c0 c1 K
    go_wp2
    go_ret2
    exact HeldOut.nothing HZ.out (B0.out.trans (B3.out.mono B0.out.size))
   | true =>
    obtain ⟨h32,hby⟩:=GK.out hG
    have hopk:l.getD k none=some (f k):=by rw [OK.out,hG];rfl
    rw [h32] at hown3 ⊢
    have hs5:=Seq.int (Seq.own hown3) (j:=5) (by rw [h32];omega)
    obtain ⟨g3,o3,e3,hlt3,h5⟩:=hs5
    have hA3:A3=some ⟨g3,0,none⟩∧o3=0:=by
     rcases hown3.2 with ⟨_,h0⟩ | ⟨g,cap,cur,e,_⟩
     ·omega
     ·cases e;cases e3;exact ⟨rfl,rfl⟩
    obtain ⟨rfl,rfl⟩:=hA3
    clear e3
    rw [Nat.zero_add,show (f k).getD 5 0=manyOf (f k) from rfl] at h5
    have hmb:=byte_getD hby 5
    have hmb0:0≤manyOf (f k):=hmb.1
    have hmb1:manyOf (f k) < 256:=hmb.2
    by_cases h24:24 < manyOf (f k)
    ·have HZ:=Lh (slot_bad (l:=l) (k:=k) (by rw [LL.out];exact hkm) (.inr ⟨f k,hopk,h24⟩))
     clear hown3 hb3 hb13 hG c0 c1 K hmb hby h32 hopk
     go_wp2
     go_ret2
     exact HeldOut.nothing HZ.out (B0.out.trans (B3.out.mono B0.out.size))
    ·obtain ⟨q,hq⟩:∃ q:Nat,manyOf (f k)=(q:Int):=⟨(manyOf (f k)).toNat,by omega⟩
     have hpl:(partB (f k)).length=q:=by have:=partB_length h32 hby (by omega);omega
     have hq24:q≤24:=by omega
     rw [hq] at h5
     have HBYk:=Lh hby
     have HQ:=Lh hq
     have H32:=Lh h32
     have P3:=Lh (owns_base (base':=w1.heap.size) hown3 B.out.size)
     have HAP:=Lh (show (Value.slice (some ⟨g3,0,none⟩) 32 c3).ownBlock=none∨(Value.slice (some ⟨g3,0,none⟩) 32 c3).ownBlock≠(Value.slice A9 (acF f k).length c9).ownBlock from by
      refine .inr fun e=>?_
      rcases OB.out.2 with ⟨e2,_⟩ | ⟨g,cap,cur,e2,_,hg2,_⟩
      ·rw [e2] at e;simp [Value.ownBlock] at e
      ·rw [e2] at e
       have e4:g3=g:=by simpa [Value.ownBlock] using e
       have h1:=(Array.getElem?_eq_some_iff.1 hg2).1
       rcases hown3.2 with ⟨_,h0⟩ | ⟨g',cap',cur',e5,hb5,_⟩
       ·omega
       ·have e6:g3=g':=by simpa [Value.ownBlock] using congrArg Value.ownBlock e5
        omega)
     have HARG:=Lh (Arg.own hown3)
     have hcc:=HARG.out.cap
     have hcm:=HARG.out.max
     unfold maxLen at hcm
     have hnx:(acF f (k + 1)).length=(acF f k).length + q:=by rw [acF_succ,List.length_append,hpl]
     have HNX:=Lh hnx
     have HPL:=Lh hpl
     have hkl:k + 1≤maxLen:=by omega
     obtain ⟨N9,hN9⟩:∃ N,N=(acF f k).length:=⟨_,rfl⟩
     have hac2:N9≤96:=by omega
     have hacq:N9 + q≤maxLen:=by omega
     have HALL:=Lh (show ∀ y,y < k + 1→gotOk S C ((a:Int) + (y:Int))=true∧manyOf (f y)≤24 from fun y hy=>by
      rcases Nat.lt_or_ge y k with h | h
      ·exact ALL.out y h
      ·obtain rfl:y=k:=by omega
       exact ⟨hG,by omega⟩)
     rw [← hN9] at RW3 OB3 HAP HNX ⊢
     have HN:=Lh hN9
     have hq0:(0:Int)≤(q:Int):=by omega
     have hwq:IntKind.i64.wrap (q:Int)=(q:Int):=Lib.wrap_i64_small q (by omega)
     have hqc:(8:Int) + (q:Int)≤(c3:Int):=by omega
     have hc8:(8:Int) < (c3:Int):=by omega
     have hlt24:¬ (24:Int) < (q:Int):=by omega
     clear hown3 hb3 hb13 hG c0 c1 K hmb hby h32 hopk hmb0 hmb1 h24 hq hac hN9 hnx hpl ALL
     have hsz3:=B3.out.size
     go_wp2_with (first
      | (at_builtin;(refine wpList_rows w1 _ rfl (.tmp 37) (.tmp 39) _ rfl i1 _ Tryz.underlying103 hi1 hj0 hj1 hj2 rfl w1.heap.size A8 k c8 (tsF f k) _ rfl RW3.out (some ⟨g3,0,none⟩) 32 c3 (f k) HBYk.out P3.out HAP.out rfl hkl (by omega) B3.out (Nat.le_refl _) ?_);intro A8' c8' w4 hR4 hB4 hK4;have RW4:=Lh hR4;have B4:=Lh hB4;have OB4:=Lh (hK4 _ _ _ _ OB3.out);have P4:=Lh (Arg.own (hK4 _ _ _ _ P3.out));have hsz4:=B4.out.size;obtain ⟨_,_,e9,_,h54⟩:=P4.out.seq.int (j:=5) (by rw [H32.out];omega);cases e9;rw [Nat.zero_add,show (f k).getD 5 0=manyOf (f k) from rfl,HQ.out] at h54;clear hR4 hB4 hK4)
      | (at_builtin;go_must (refine wpList_app _ rfl (.tmp 41) (.tmp 48) _ rfl w1.heap.size 5 i0 _ 1 Tryz.underlying42 hi0 hz0 hz1 hz2 rfl _ N9 _ rfl OB4.out w4.heap.size (some ⟨g3,8,none⟩) (8 + q - 8) (c3 - 8) (ints .u8 (partB (f k))) rfl (by rw [ints_length,HPL.out];omega) (by have h8:=arg_part P4.out (by rw [HQ.out];omega);rw [Nat.zero_add] at h8;exact h8.seq) (ints_one _ _) (by omega) (by omega) hsz4 ?_);intro v5 w5 hown5 hg5 hob5;rw [show N9 + (8 + q - 8)=N9 + q from by omega] at hown5;obtain ⟨A9',c9',rfl⟩:=owns_slice hown5;have HL5:=Lh (OB4.out.lt);have OB5:=Lh hown5;have B5:=Lh (B4.out.grown hg5 hsz4 (fun g e=>(HL5.out g e).1));have RW5:=Lh (RW4.out.grown OB4.out hg5 hob5);clear hown5 hg5 hob5))
     go_roundw
     case rel=>exact ⟨k + 1,A8',c8',A9',c9',by omega,by go_num,rfl,by rw [HNX.out],by rw [HNX.out,tsF_succ];exact RW5.out,by rw [HNX.out,acF_succ,ints_app];exact OB5.out,HALL.out,B5.out⟩
     case measure=>simp [intOf];omega
  ·obtain rfl:k=m:=by omega
   have hgd:∀ i,i < k→(f i).length=32∧∀ z ∈ f i,isByte z:=fun i hi=>GOOD.out i hi (hall i hi).1
   have hfo:∀ i,i < k→l.getD i none=some (f i):=fun i hi=>by rw [OPT.out i hi,if_pos (hall i hi).1]
   have SA:=slot_all (l:=l) (f:=f) hm1 LL.out hfo hgd (fun i hi=>(hall i hi).2)
   have hv:=ver_bounds (t:=f 0) (by rw [(hgd 0 (by omega)).1];omega) (hgd 0 (by omega)).2
   have hbac:=acF_byte (f:=f) (k:=k) fun i hi=>(hgd i hi).2
   have hT8:=Texts.of_own hrows.own
   obtain ⟨b8,o8,Ai,ni,ci,rfl,hlt8,hc8,ha8⟩:=hT8.at_ 0 (by omega)
   rw [tsF_get f (by omega:0 < k)] at ha8
   have hni:ni=32:=by have:=ha8.len;have:=(hgd 0 (by omega)).1;omega
   subst hni
   obtain ⟨g0,o0,rfl,hg0,_⟩:=ha8.seq.at_ (by rw [ints_length,(hgd 0 (by omega)).1];omega)
   rw [Nat.add_zero] at hc8
   have hN4:=Lh (number_any _ 4 ci ((f 0).take 4) wr _ (ha8.first (by omega:4≤32)).seq (by rw [List.length_take,(hgd 0 (by omega)).1];rfl) (by omega) (fun z hz=>(hgd 0 (by omega)).2 z (List.mem_of_mem_take hz)))
   rw [show val ((f 0).take 4)=verOf (f 0) from rfl] at hN4
   obtain ⟨V,hV⟩:∃ V,V=verOf (f 0):=⟨_,rfl⟩
   rw [← hV] at hN4 hv SA
   have hci:=ha8.cap
   have hk0:(0:Int) < (k:Int):=by omega
   obtain ⟨N9,hN9⟩:∃ N,N=(acF f k).length:=⟨_,rfl⟩
   rw [← hN9] at hown hac ⊢
   have hsp9:∀ x,A9=some x→x.spot=none∨c9=0:=fun x hx=>by
    subst hx
    rcases hown.2 with ⟨e,_⟩ | ⟨g,cap,cur,e,_⟩
    ·cases e
    ·cases e;exact .inl rfl
   have PT:=Lh (rparts_any V ⟨hv.1,Int.lt_trans hv.2 (by decide)⟩ A9 N9 c9 (acF f k) k (by omega) wr (Arg.own hown) (by omega) hbac hsp9)
   have SAH:=Lh SA
   have T8:=Lh hT8
   have OB:=Lh hown
   have B:=Lh hbel
   have HN:=Lh hN9
   have HGD:=Lh hgd
   have hbl:=hbel.size
   clear SA hT8 hown hbel hrows hall hlen24 hgd hfo hac hbac hN9 hsp9 hV hv ha8 hlt8 hg0 hx OPT GOOD GOT
   go_wp2_with fail
   refine hN4.out.mono ?_
   rintro e _ ⟨rfl,rfl⟩
   clear hN4
   go_wp2_with fail
   refine PT.out.mono ?_
   rintro e w6 ⟨A14,c14,rfl,hO14,hb6⟩
   have T14:=Lh (Texts.of_own hO14)
   have T8:=Lh (T8.out.below hb6)
   have OB:=Lh (owns_below OB.out hb6)
   have B:=Lh (B.out.trans (hb6.mono B.out.size))
   clear hO14 hb6 PT hc8 hbl
   go_wp2
   go_loopw [15] (fun i wr=>∃ j:Nat,j≤k∧i=.int .i64 j∧(∀ y,y < j→f y=partT V y (chunk (acF f k) y))∧∃ q,wr=w6.drewN q) (fun i _=>k - (intOf i).toNat)
   case atStart=>exact ⟨0,Nat.zero_le _,rfl,fun y hy=>by omega,0,rfl⟩
   case round =>
    obtain ⟨j,hj,rfl,hall,q,rfl⟩:=hrel
    have ALL:=Lh hall
    clear hall
    by_cases hjk:j < k
    ·have hji:(j:Int) < (k:Int):=by omega
     obtain ⟨b1,o1,A1,n1,c1,e1,hlt1,hc1,ha1⟩:=T14.out.at_ j hjk
     obtain ⟨b2,o2,A2,n2,c2,e2,hlt2,hc2,ha2⟩:=T8.out.at_ j hjk
     subst e1
     cases e2
     rw [textsOf_get V (acF f k) hjk] at ha1
     rw [tsF_get f hjk] at ha2
     have hst1:=fun q=>str_arg (ha1.below (below_drewN (Below.refl w6.heap.size w6) q))
     have hst2:=fun q=>str_arg (ha2.below (below_drewN (Below.refl w6.heap.size w6) q))
     have hse:=strs_eq (x:=partT V j (chunk (acF f k) j)) (y:=f j) (by have:=T14.out.byte_at j;rwa [textsOf_get V (acF f k) hjk] at this) (HGD.out j hjk).2
     obtain ⟨t1,ht1⟩:∃ x,x=partT V j (chunk (acF f k) j):=⟨_,rfl⟩
     obtain ⟨t2,ht2⟩:∃ x,x=f j:=⟨_,rfl⟩
     rw [← ht1] at hst1 hse
     rw [← ht2] at hst2 hse
     have HT1:=Lh ht1
     have HT2:=Lh ht2
     clear ht1 ht2 ha1 ha2 hlt1 hlt2
     by_cases ht:t1=t2
     ·have hse2:((strOfNums t1).toList != (strOfNums t2).toList)=false:=by
       have h:=hse.trans (decide_eq_true ht)
       simp only [bne,h,Bool.not_true]
      have hse3:((strOfNums t1).toList == (strOfNums t2).toList)=true:=hse.trans (decide_eq_true ht)
      have HT:=Lh ht
      clear ht hse
      go_wp2
      go_quiet (fail)
      go_wp2
      go_roundw
      case rel =>
       refine ⟨j + 1,by omega,by go_num,fun y' hy'=>?_,_,rfl⟩
       rcases Nat.lt_or_ge y' j with h' | h'
       ·exact ALL.out y' h'
       ·obtain rfl:y'=j:=by omega
        rw [← HT2.out,← HT1.out,HT.out]
      case measure=>simp [intOf];omega
     ·have hse2:((strOfNums t1).toList != (strOfNums t2).toList)=true:=by
       have h:=hse.trans (decide_eq_false ht)
       simp only [bne,h,Bool.not_false]
      have hse3:((strOfNums t1).toList == (strOfNums t2).toList)=false:=hse.trans (decide_eq_false ht)
      have HZ:=Lh (SAH.out.2 ⟨j,hjk,by rw [← HT2.out,← HT1.out];exact fun e=>ht e.symm⟩)
      clear ht hse
      go_wp2
      go_quiet (fail)
      go_wp2
      go_ret2
      exact HeldOut.nothing HZ.out (below_drewN (below_drewN (B0.out.trans (B.out.mono B0.out.size)) q) _)
    ·obtain rfl:j=k:=by omega
     have HS:=Lh (SAH.out.1 fun i hi=>ALL.out i hi)
     go_wp2
     go_ret2
     obtain ⟨e1,e2⟩:=HS.out
     refine ⟨A9,c9,acF f j,by rw [e1,← HN.out];rfl,?_,e2,below_drewN (B0.out.trans (B.out.mono B0.out.size)) _⟩
     have:=owns_below (owns_base OB.out B0.out.size) (below_drewN (Below.refl w6.heap.size w6) q)
     rw [← HN.out]
     exact this
theorem opts_take (S:List Sec) (C:List Pnd) (a m:Nat):(optsOf S C (a:Int) (2 * m)).take m=optsOf S C a m:=by
 unfold optsOf
 rw [← List.map_take,List.take_range,Nat.min_eq_left (by omega)]
theorem opts_drop (S:List Sec) (C:List Pnd) (a m:Nat):(optsOf S C (a:Int) (2 * m)).drop m=optsOf S C ((a + m:Nat):Int) m:=by
 refine list_eq (d:=none) (n:=m) (by simp [optsOf];omega) (by simp [optsOf]) fun i hi=>?_
 rw [getD_drop,optsOf_get S C a (by omega:m + i < 2 * m),optsOf_get S C _ hi]
 congr 1
 omega
def slF (x y:Int):Int:=if x=0∧y=0 then -1 else if x < y then 1 else 0
theorem opts_pos {S:List Sec} {C:List Pnd} (hS:∀ s ∈ S,∀ z ∈ s.2,isByte z) (hC:∀ p ∈ C,∀ z ∈ p.2,isByte z) (a:Int) (m:Nat):0≤slotV (optsOf S C a m)∧slotV (optsOf S C a m) < 4294967296:=by
 have hv:=ver_opts (at_:=a) hS hC m
 refine ⟨slotV_pos fun i T hi h=>?_,?_⟩
 ·rw [optsOf_length] at hi
  rw [optsOf_get S C a hi] at h
  unfold optAt at h
  split at h
  ·rename_i hr
   injection h with h
   subst h
   have hg:=rd_good hr hS hC
   exact (ver_bounds (by omega) hg.2).1
  ·cases h
 ·have:=slotV_le (l:=optsOf S C a m) (c:=countTo (optsOf S C a m) m) hv.1 (fun i T hi h=>count_ge m i T (by rwa [optsOf_length] at hi) h)
  omega
theorem rslot_any (A:Option Addr) (n c:Nat) (A':Option Addr) (n' c':Nat) (S:List Sec) (C:List Pnd) (a m:Nat) (w:World) (hq:Dsk w A n c A' n' c' S C) (hs:SmallD S C) (hmay:mayD S C=true) (hm1:1≤m) (hm4:m≤4) (han:a + 2 * m≤n) :
  Calls Tryz.prog 167 #[diskV A n c A' n' c',.int .i64 (a:Int),.int .i64 (m:Int)] w fun e w'=>e=.returned (.int .i64 (slF (slotV (optsOf S C a m)) (slotV (optsOf S C ((a + m:Nat):Int) m))))∧Below w.heap.size w w':=by
 have hn100:n≤300:=by have:=hs.secs;have:=hq.secs.len;omega
 have p0:=opts_pos hq.secs.byte hq.pnds.byte (a:Int) m
 have p1:=opts_pos hq.secs.byte hq.pnds.byte ((a + m:Nat):Int) m
 have H0:=Lh (fun wx hx=>rheld_any A n c A' n' c' S C a m wx hx hs hmay hm1 hm4 (by omega))
 have H1:=Lh (fun wx hx=>rheld_any A n c A' n' c' S C (a + m) m wx hx hs hmay hm1 hm4 (by omega))
 have hwam:wrap64 ((a:Int) + (m:Int))=(a:Int) + (m:Int):=by unfold wrap64;omega
 have hb0:Below w.heap.size w (w.alloc (.cells #[.slice A n c,.slice A' n' c'] 25)):=(Below.refl _ _).alloc (Nat.le_refl _) _
 have X:=Lh (DBox.new hq)
 have B:=Lh hb0
 obtain ⟨c0,c1⟩:=X.out.cells
 unfold HeldOut at H0 H1
 rw [show ((a + m:Nat):Int)=(a:Int) + (m:Int) from by omega] at H1 p1 ⊢
 obtain ⟨x,hx⟩:∃ x,x=slotV (optsOf S C (a:Int) m):=⟨_,rfl⟩
 obtain ⟨y,hy⟩:∃ y,y=slotV (optsOf S C ((a:Int) + (m:Int)) m):=⟨_,rfl⟩
 rw [← hx] at H0 p0 ⊢
 rw [← hy] at H1 p1 ⊢
 clear hq hs hmay hb0 hx hy
 unfold slF
 by_cases h1:x=0∧y=0
 ·rw [if_pos h1]
  obtain ⟨rfl,rfl⟩:=h1
  go_enter Tryz.func167,Tryz.ntmps167
  go_wp2_with fail
  refine (H0.out _ X.out.dsk).mono ?_
  rintro e w1 ⟨Ah0,ch0,Bh0,rfl,hown,_,hb⟩
  have B:=Lh (B.out.trans (hb.mono B.out.size))
  have X:=Lh (X.out.below hb)
  obtain ⟨L0,hL0⟩:∃ L,L=Bh0.length:=⟨_,rfl⟩
  rw [← hL0]
  clear hb c0 c1 hown hL0
  obtain ⟨c0,c1⟩:=X.out.cells
  go_wp2_with fail
  refine (H1.out _ X.out.dsk).mono ?_
  rintro e w2 ⟨Ah1,ch1,Bh1,rfl,hown,_,hb⟩
  have B:=Lh (B.out.trans (hb.mono B.out.size))
  have X:=Lh (X.out.below hb)
  obtain ⟨L1,hL1⟩:∃ L,L=Bh1.length:=⟨_,rfl⟩
  rw [← hL1]
  clear hb c0 c1 hown hL1
  obtain ⟨c0,c1⟩:=X.out.cells
  go_wp2
  go_ret
  exact ⟨rfl,B.out⟩
 ·rw [if_neg h1]
  by_cases hx0:x=0
  ·subst hx0
   have hy0:y≠0:=fun e=>h1 ⟨rfl,e⟩
   have hy1:(y == 0)=false:=beq_eq_false_iff_ne.2 hy0
   have hlt:(0:Int) < y:=by omega
   rw [if_pos hlt]
   clear h1
   go_enter Tryz.func167,Tryz.ntmps167
   go_wp2_with fail
   refine (H0.out _ X.out.dsk).mono ?_
   rintro e w1 ⟨Ah0,ch0,Bh0,rfl,hown,_,hb⟩
   have B:=Lh (B.out.trans (hb.mono B.out.size))
   have X:=Lh (X.out.below hb)
   obtain ⟨L0,hL0⟩:∃ L,L=Bh0.length:=⟨_,rfl⟩
   rw [← hL0]
   clear hb c0 c1 hown hL0
   obtain ⟨c0,c1⟩:=X.out.cells
   go_wp2_with fail
   refine (H1.out _ X.out.dsk).mono ?_
   rintro e w2 ⟨Ah1,ch1,Bh1,rfl,hown,_,hb⟩
   have B:=Lh (B.out.trans (hb.mono B.out.size))
   have X:=Lh (X.out.below hb)
   obtain ⟨L1,hL1⟩:∃ L,L=Bh1.length:=⟨_,rfl⟩
   rw [← hL1]
   clear hb c0 c1 hown hL1
   obtain ⟨c0,c1⟩:=X.out.cells
   go_wp2
   go_ret
   exact ⟨rfl,B.out⟩
  ·have hx1:(x == 0)=false:=beq_eq_false_iff_ne.2 hx0
   clear h1
   by_cases hlt:x < y
   ·rw [if_pos hlt]
    go_enter Tryz.func167,Tryz.ntmps167
    go_wp2_with fail
    refine (H0.out _ X.out.dsk).mono ?_
    rintro e w1 ⟨Ah0,ch0,Bh0,rfl,hown,_,hb⟩
    have B:=Lh (B.out.trans (hb.mono B.out.size))
    have X:=Lh (X.out.below hb)
    obtain ⟨L0,hL0⟩:∃ L,L=Bh0.length:=⟨_,rfl⟩
    rw [← hL0]
    clear hb c0 c1 hown hL0
    obtain ⟨c0,c1⟩:=X.out.cells
    go_wp2_with fail
    refine (H1.out _ X.out.dsk).mono ?_
    rintro e w2 ⟨Ah1,ch1,Bh1,rfl,hown,_,hb⟩
    have B:=Lh (B.out.trans (hb.mono B.out.size))
    have X:=Lh (X.out.below hb)
    obtain ⟨L1,hL1⟩:∃ L,L=Bh1.length:=⟨_,rfl⟩
    rw [← hL1]
    clear hb c0 c1 hown hL1
    obtain ⟨c0,c1⟩:=X.out.cells
    go_wp2
    go_ret
    exact ⟨rfl,B.out⟩
   ·rw [if_neg hlt]
    go_enter Tryz.func167,Tryz.ntmps167
    go_wp2_with fail
    refine (H0.out _ X.out.dsk).mono ?_
    rintro e w1 ⟨Ah0,ch0,Bh0,rfl,hown,_,hb⟩
    have B:=Lh (B.out.trans (hb.mono B.out.size))
    have X:=Lh (X.out.below hb)
    obtain ⟨L0,hL0⟩:∃ L,L=Bh0.length:=⟨_,rfl⟩
    rw [← hL0]
    clear hb c0 c1 hown hL0
    obtain ⟨c0,c1⟩:=X.out.cells
    go_wp2_with fail
    refine (H1.out _ X.out.dsk).mono ?_
    rintro e w2 ⟨Ah1,ch1,Bh1,rfl,hown,_,hb⟩
    have B:=Lh (B.out.trans (hb.mono B.out.size))
    have X:=Lh (X.out.below hb)
    obtain ⟨L1,hL1⟩:∃ L,L=Bh1.length:=⟨_,rfl⟩
    rw [← hL1]
    clear hb c0 c1 hown hL1
    obtain ⟨c0,c1⟩:=X.out.cells
    go_wp2
    go_ret
    exact ⟨rfl,B.out⟩
def thereP (S:List Sec) (at_ wd:Int):Prop:=1≤wd∧wd≤4∧0≤at_∧at_ + 2 * wd≤(S.length:Int)
instance (S:List Sec) (at_ wd:Int):Decidable (thereP S at_ wd):=by unfold thereP;infer_instance
theorem rthere_any (A:Option Addr) (n c:Nat) (A':Option Addr) (n' c':Nat) (S:List Sec) (C:List Pnd) (at_ wd:Int) (w:World) (hq:Dsk w A n c A' n' c' S C) (hs:SmallD S C) :
  Calls Tryz.prog 171 #[diskV A n c A' n' c',.int .i64 at_,.int .i64 wd] w fun e w'=>e=.returned (.bool (decide (thereP S at_ wd)))∧Below w.heap.size w w':=by
 have hsl:=hq.secs.len
 have hn100:n≤300:=by have:=hs.secs;omega
 have hb0:Below w.heap.size w (w.alloc (.cells #[.slice A n c,.slice A' n' c'] 25)):=(Below.refl _ _).alloc (Nat.le_refl _) _
 have X:=Lh (DBox.new hq)
 have B:=Lh hb0
 obtain ⟨c0,c1⟩:=X.out.cells
 clear hb0 hq hs
 have hyes:thereP S at_ wd→decide (thereP S at_ wd)=true:=decide_eq_true
 have hno:¬ thereP S at_ wd→decide (thereP S at_ wd)=false:=decide_eq_false
 obtain ⟨r,hr⟩:∃ r,r=decide (thereP S at_ wd):=⟨_,rfl⟩
 rw [← hr] at hyes hno ⊢
 unfold thereP at hyes hno
 rw [hsl] at hyes hno
 clear hsl hr
 by_cases h1:1≤wd
 case neg =>
  rw [hno (by omega)]
  clear hyes hno
  go_enter Tryz.func171,Tryz.ntmps171
  go_wp2
  go_ret
  exact ⟨by first | rfl | simp,B.out⟩
 case pos =>
  by_cases h2:wd≤4
  case neg =>
   rw [hno (by omega)]
   clear hyes hno
   go_enter Tryz.func171,Tryz.ntmps171
   go_wp2
   go_ret
   exact ⟨by first | rfl | simp,B.out⟩
  case pos =>
   by_cases h3:0≤at_
   case neg =>
    rw [hno (by omega)]
    clear hyes hno
    go_enter Tryz.func171,Tryz.ntmps171
    go_wp2
    go_ret
    exact ⟨by first | rfl | simp,B.out⟩
   case pos =>
    have hw2:wrap64 (2 * wd)=2 * wd:=by unfold wrap64;omega
    have hw3:wrap64 ((n:Int) - 2 * wd)=(n:Int) - 2 * wd:=by unfold wrap64;omega
    by_cases h4:at_≤(n:Int) - 2 * wd
    case neg =>
     rw [hno (by omega)]
     clear hyes hno
     go_enter Tryz.func171,Tryz.ntmps171
     go_wp2
     go_ret
     exact ⟨by first | rfl | simp,B.out⟩
    case pos =>
     rw [hyes (by omega)]
     clear hyes hno
     go_enter Tryz.func171,Tryz.ntmps171
     go_wp2
     go_ret
     exact ⟨by first | rfl | simp,B.out⟩
theorem rcheck6_any (A:Option Addr) (n c:Nat) (A':Option Addr) (n' c':Nat) (S:List Sec) (C:List Pnd) (at_ wd:Int) (w:World) (hq:Dsk w A n c A' n' c' S C) (hs:SmallD S C) :
  Calls Tryz.prog 140 #[diskV A n c A' n' c',.int .i64 at_,.int .i64 wd] w fun e w'=>e=.returned (.int .i64 (cellE S C at_ wd))∧Below w.heap.size w w':=by
 have MY:=Lh (fun wx hx=>may_any A n c A' n' c' S C wx hx)
 have TH:=Lh (fun wx hx=>rthere_any A n c A' n' c' S C at_ wd wx hx hs)
 have hb0:Below w.heap.size w (w.alloc (.cells #[.slice A n c,.slice A' n' c'] 25)):=(Below.refl _ _).alloc (Nat.le_refl _) _
 have X:=Lh (DBox.new hq)
 have B:=Lh hb0
 obtain ⟨c0,c1⟩:=X.out.cells
 clear hb0 hq hs
 unfold cellE
 by_cases hm:mayD S C=true
 ·rw [if_pos hm]
  rw [hm] at MY
  by_cases ht:thereP S at_ wd
  ·rw [show decide (thereP S at_ wd)=true from decide_eq_true ht] at TH
   unfold thereP at ht
   rw [if_pos ht]
   clear ht hm
   go_enter Tryz.func140,Tryz.ntmps140
   go_wp2_with fail
   refine (MY.out _ X.out.dsk).mono ?_
   rintro e w1 ⟨rfl,hb⟩
   have B:=Lh (B.out.trans (hb.mono B.out.size))
   have X:=Lh (X.out.below hb)
   clear hb c0 c1
   obtain ⟨c0,c1⟩:=X.out.cells
   go_wp2_with fail
   refine (TH.out _ X.out.dsk).mono ?_
   rintro e w2 ⟨rfl,hb⟩
   have B:=Lh (B.out.trans (hb.mono B.out.size))
   have X:=Lh (X.out.below hb)
   clear hb c0 c1
   obtain ⟨c0,c1⟩:=X.out.cells
   go_wp2
   go_ret
   exact ⟨rfl,B.out⟩
  ·rw [show decide (thereP S at_ wd)=false from decide_eq_false ht] at TH
   unfold thereP at ht
   rw [if_neg ht]
   clear ht hm
   go_enter Tryz.func140,Tryz.ntmps140
   go_wp2_with fail
   refine (MY.out _ X.out.dsk).mono ?_
   rintro e w1 ⟨rfl,hb⟩
   have B:=Lh (B.out.trans (hb.mono B.out.size))
   have X:=Lh (X.out.below hb)
   clear hb c0 c1
   obtain ⟨c0,c1⟩:=X.out.cells
   go_wp2_with fail
   refine (TH.out _ X.out.dsk).mono ?_
   rintro e w2 ⟨rfl,hb⟩
   have B:=Lh (B.out.trans (hb.mono B.out.size))
   have X:=Lh (X.out.below hb)
   clear hb c0 c1
   obtain ⟨c0,c1⟩:=X.out.cells
   go_wp2
   go_ret
   exact ⟨rfl,B.out⟩
 ·rw [if_neg hm]
  rw [show mayD S C=false by simpa using hm] at MY
  clear hm
  go_enter Tryz.func140,Tryz.ntmps140
  go_wp2_with fail
  refine (MY.out _ X.out.dsk).mono ?_
  rintro e w1 ⟨rfl,hb⟩
  have B:=Lh (B.out.trans (hb.mono B.out.size))
  have X:=Lh (X.out.below hb)
  clear hb c0 c1
  obtain ⟨c0,c1⟩:=X.out.cells
  go_wp2
  go_ret
  exact ⟨rfl,B.out⟩
end Go.Proofs.YtifgcfepbenpjaaGreat
