/- Texts of the layers below, joined. -/
import Derived.Test.YtdbeiikaeccbhaaDa26
import Derived.BigQuiet
set_option maxRecDepth 100000
set_option maxHeartbeats 12800000
set_option linter.unusedVariables false
namespace Go.Proofs.Ytdbeiikaeccbhaa
theorem pg_bit (s:Txt) (n:Nat) {i:Nat} (hi:i < 8):(pg s n).testBit i=hasT s (8 * n + i):=by
 unfold hasT
 rw [show (8 * n + i) / 8=n by omega,show (8 * n + i) % 8=i by omega]
theorem pg_ext {x y:Nat} (hx:x < 256) (hy:y < 256) (h:∀ i,i < 8→x.testBit i=y.testBit i):x=y:=by
 refine Nat.eq_of_testBit_eq fun i=>?_
 rcases Nat.lt_or_ge i 8 with hi | hi
 ·exact h i hi
 ·rw [bit_lt hx hi,bit_lt hy hi]
theorem and_lt {x y:Nat} (hx:x < 256):x &&& y < 256:=Nat.lt_of_le_of_lt Nat.and_le_left hx
theorem but_bit {x y:Nat} (hy:y < 256) {i:Nat} (hi:i < 8):(x &&& (255 - y)).testBit i=(x.testBit i && !y.testBit i):=by
 rw [Nat.testBit_and,show 255 - y=2 ^ 8 - (y + 1) by omega,Nat.testBit_two_pow_sub_succ (show y < 2 ^ 8 by omega),decide_eq_true hi,Bool.true_and]
def oneT (m:Nat) (t:Nat):Txt:=made m fun u=>[(t:Int)].contains (u:Int)
theorem hasT_one {m t u:Nat} (ht:t < m):hasT (oneT m t) u=decide (u=t):=by
 unfold oneT
 rw [hasT_made]
 by_cases h:u=t
 ·subst h
  simp [ht]
 ·rw [decide_eq_false h]
  have:([(t:Int)].contains (u:Int))=false:=by
   simp
   omega
  rw [this,Bool.and_false]
section
variable {m t n:Nat} {a b:Txt}
theorem mark_no (ha:IsSet m a) (ht:t < m) (h:(decide (n=t / 8) && !hasT a t)=false):pg (oneT m t) n &&& (255 - pg a n)=0:=by
 refine pg_ext (and_lt (pg_lt (made_isSet m _).byte n)) (by decide) fun i hi=>?_
 rw [but_bit (pg_lt ha.byte n) hi,pg_bit _ _ hi,pg_bit _ _ hi,hasT_one ht,Nat.zero_testBit]
 by_cases e:8 * n + i=t
 ·rw [e,decide_eq_true rfl,Bool.true_and]
  rw [decide_eq_true (show n=t / 8 by omega),Bool.true_and] at h
  exact h
 ·rw [decide_eq_false e,Bool.false_and]
theorem mark_yes (ha:IsSet m a) (hb:IsSet m b) (ht:t < m) (h:(decide (n=t / 8) && !hasT a t)=true) :
  pg (oneT m t) n &&& (255 - pg a n)≠0∧(pg a n &&& pg b n) ||| pg (oneT m t) n=pg (made m fun u=>if u=t then true else hasT a u && hasT b u) n∧pg (made m fun u=>if u=t then true else hasT a u && hasT b u) n≠pg a n:=by
 rw [Bool.and_eq_true,decide_eq_true_eq] at h
 obtain ⟨rfl,h2⟩:=h
 have e:8 * (t / 8) + t % 8=t:=by omega
 have h8:t % 8 < 8:=Nat.mod_lt _ (by decide)
 refine ⟨fun h0=>?_,?_,fun h0=>?_⟩
 ·have:=but_bit (x:=pg (oneT m t) (t / 8)) (pg_lt ha.byte (t / 8)) h8
  rw [h0,Nat.zero_testBit,pg_bit _ _ h8,pg_bit _ _ h8,e,hasT_one ht,h2,decide_eq_true rfl] at this
  cases this
 ·refine pg_ext (or_byteB (and_lt (pg_lt ha.byte _)) (pg_lt (made_isSet m _).byte _)) (pg_lt (made_isSet m _).byte _) fun i hi=>?_
  rw [Nat.testBit_or,Nat.testBit_and,pg_bit _ _ hi,pg_bit _ _ hi,pg_bit _ _ hi,pg_bit _ _ hi,hasT_one ht,hasT_made]
  by_cases e:8 * (t / 8) + i=t
  ·rw [if_pos e,decide_eq_true e,decide_eq_true (show 8 * (t / 8) + i < m by omega)]
   simp
  ·rw [if_neg e,decide_eq_false e,Bool.or_false]
   by_cases hm:8 * (t / 8) + i < m
   ·rw [decide_eq_true hm,Bool.true_and]
   ·rw [decide_eq_false hm,Bool.false_and,ha.out _ (by omega),Bool.false_and]
 ·have:=congrArg (fun x=>Nat.testBit x (t % 8)) h0
  rw [pg_bit _ _ h8,pg_bit _ _ h8,e,hasT_made,if_pos rfl,decide_eq_true ht] at this
  rw [← this] at h2
  cases h2
theorem both_pg (ha:IsSet m a) (hb:IsSet m b):pg a n &&& pg b n=pg (bothL m a b) n:=by
 refine pg_ext (and_lt (pg_lt ha.byte n)) (pg_lt (made_isSet m _).byte n) fun i hi=>?_
 unfold bothL
 rw [Nat.testBit_and,pg_bit _ _ hi,pg_bit _ _ hi,pg_bit _ _ hi,hasT_made]
 by_cases hm:8 * n + i < m
 ·rw [decide_eq_true hm,Bool.true_and]
 ·rw [decide_eq_false hm,Bool.false_and,ha.out _ (by omega),Bool.false_and]
theorem dif_told (set a:Txt) (k:Nat):(if difW set a k=true then set.getD k 0 else a.getD k 0)=set.getD k 0:=by
 unfold difW
 by_cases h:set.getD k 0=a.getD k 0
 ·rw [if_neg (by rw [h];simp)]
  exact h.symm
 ·rw [if_pos (bne_iff_ne.2 h)]
theorem dif_ne {set a:Txt} {k:Nat} (h:difW set a k=true):set.getD k 0≠a.getD k 0:=by
 unfold difW at h
 exact bne_iff_ne.1 h
end
end Go.Proofs.Ytdbeiikaeccbhaa
namespace Go.Proofs.Ytdbeiikaeccbhaa
open Go.RowKit
set_option maxRecDepth 100000
structure SBoxT (w:World) (g:Nat) (D:Option Addr) (n c:Nat) (s:Txt):Prop where
 box:Blk w g 22 [.slice D n c]
 arg:Arg w .u8 D n c s
theorem SBoxT.below {w w':World} {g:Nat} {D:Option Addr} {n c:Nat} {s:Txt} (x:SBoxT w g D n c s) (hb:Below w.heap.size w w'):SBoxT w' g D n c s:=⟨x.box.below hb x.box.lt,x.arg.below hb⟩
theorem pfill1_any (g:Nat) (D:Option Addr) (n c:Nat) (s:Txt) (k:Nat) (b0:Int) (w:World) (x:SBoxT w g D n c s) (hs:∀ z ∈ s,isByte z) (hk:k < n) (hn:n≤16) :
  Calls Try.prog 28 #[.int .i64 (k:Int),.int .u8 b0,.pointer (some ⟨g,0,none⟩)] w (fun e w'=>e=.returned (.int .u8 (s.getD k 0))∧Below w.heap.size w w'):=by
 have hl:=x.arg.len
 have h0:=x.box.cell 0
 simp only [gcZ] at h0
 obtain ⟨u,o,rfl,_,h1⟩:=x.arg.seq.int (j:=k) (by rw [hl];exact hk)
 have hki:(k:Int) < (n:Int):=by omega
 obtain ⟨v,hv⟩:∃ y,y=s.getD k 0:=⟨_,rfl⟩
 rw [← hv] at h1 ⊢
 clear hv x hs hl
 go_enter Try.func28,Try.ntmps28
 go_wp2
 go_ret
 exact ⟨rfl,Below.refl _ _⟩
theorem pclean1_any (g:Nat) (D:Option Addr) (n c:Nat) (m:Nat) (a s:Txt) (k:Nat) (w:World) (x:SBoxT w g D n c s) (ha:IsSet m a) (hs:IsSet m s) (hk:k < n) (hn:n≤16) :
  Calls Try.prog 26 #[.int .i64 (k:Int),.int .u8 (a.getD k 0),.pointer (some ⟨g,0,none⟩)] w (fun e w'=>e=.returned (.int .u8 ((bothL m a s).getD k 0))∧Below w.heap.size w w'):=by
 have hl:=x.arg.len
 have h0:=x.box.cell 0
 simp only [gcZ] at h0
 obtain ⟨u,o,rfl,_,h1⟩:=x.arg.seq.int (j:=k) (by rw [hl];exact hk)
 have hki:(k:Int) < (n:Int):=by omega
 have hv:=u8_and_nat _ _ (pg_lt ha.byte k) (pg_lt hs.byte k)
 rw [both_pg ha hs] at hv
 rw [pg_cast hs.byte] at h1
 rw [pg_cast ha.byte,pg_cast (show ∀ z ∈ bothL m a s,isByte z from (made_isSet m _).byte)]
 obtain ⟨y1,hy1⟩:∃ y,y=pg a k:=⟨_,rfl⟩
 obtain ⟨y2,hy2⟩:∃ y,y=pg s k:=⟨_,rfl⟩
 obtain ⟨y3,hy3⟩:∃ y,y=pg (bothL m a s) k:=⟨_,rfl⟩
 rw [← hy1,← hy2,← hy3] at hv
 rw [← hy2] at h1
 rw [← hy1,← hy3]
 clear hy1 hy2 hy3 x hs ha hl
 go_enter Try.func26,Try.ntmps26
 go_wp2
 go_ret
 exact ⟨rfl,Below.refl _ _⟩
theorem pmark1_any (g1 g2:Nat) (D1:Option Addr) (n c1:Nat) (D2:Option Addr) (n2 c2:Nat) (m t:Nat) (a b:Txt) (k:Nat) (w:World) (x1:SBoxT w g1 D1 n c1 (oneT m t)) (x2:SBoxT w g2 D2 n2 c2 b) (ha:IsSet m a) (hb:IsSet m b) (ht:t < m) (hk:k < n) (hk2:k < n2) (hn:n≤16) :
  Calls Try.prog 25 #[.int .i64 (k:Int),.int .u8 (a.getD k 0),.pointer (some ⟨g1,0,none⟩),.pointer (some ⟨g2,0,none⟩)] w (fun e w'=>e=.returned (.int .u8 (if (decide (k=t / 8) && !hasT a t)=true then (made m fun u=>if u=t then true else hasT a u && hasT b u).getD k 0 else a.getD k 0))∧Below w.heap.size w w'):=by
 have hl1:=x1.arg.len
 have hl2:=x2.arg.len
 have h1:=x1.box.cell 0
 have h2:=x2.box.cell 0
 simp only [gcZ] at h1 h2
 obtain ⟨u1,o1,rfl,_,z1⟩:=x1.arg.seq.int (j:=k) (by rw [hl1];exact hk)
 obtain ⟨u2,o2,rfl,_,z2⟩:=x2.arg.seq.int (j:=k) (by rw [hl2];exact hk2)
 have hki:(k:Int) < (n:Int):=by omega
 have hki2:(k:Int) < (n2:Int):=by omega
 have hone:∀ z ∈ oneT m t,isByte z:=(made_isSet m _).byte
 have hv0:=u8_andNot_nat _ _ (pg_lt hone k) (pg_lt ha.byte k)
 rw [pg_cast hone] at z1
 rw [pg_cast hb.byte] at z2
 rw [pg_cast ha.byte]
 obtain ⟨p1,hp1⟩:∃ y,y=pg (oneT m t) k:=⟨_,rfl⟩
 obtain ⟨p2,hp2⟩:∃ y,y=pg b k:=⟨_,rfl⟩
 obtain ⟨p3,hp3⟩:∃ y,y=pg a k:=⟨_,rfl⟩
 cases hw:(decide (k=t / 8) && !hasT a t) with
 | false =>
  rw [mark_no ha ht hw] at hv0
  rw [if_neg Bool.false_ne_true]
  rw [← hp1,← hp3] at hv0
  rw [← hp1] at z1
  rw [← hp2] at z2
  rw [← hp3]
  have hq:(((0:Nat):Int) == 0)=true:=rfl
  clear hp1 hp2 hp3 x1 x2 ha hb hl1 hl2 hone hw
  go_enter Try.func25,Try.ntmps25
  go_wp2
  go_ret
  exact ⟨rfl,Below.refl _ _⟩
 | true =>
  obtain ⟨q1,q2,_⟩:=mark_yes ha hb ht hw
  rw [if_pos rfl,pg_cast (show ∀ z ∈ (made m fun u=>if u=t then true else hasT a u && hasT b u),isByte z from (made_isSet m _).byte),← q2]
  have hv1:=u8_and_nat _ _ (pg_lt ha.byte k) (pg_lt hb.byte k)
  have hv2:=u8_or_nat _ _ (and_lt (y:=pg b k) (pg_lt ha.byte k)) (pg_lt hone k)
  rw [← hp1,← hp3] at hv0 q1
  rw [← hp2,← hp3] at hv1
  rw [← hp1,← hp2,← hp3] at hv2
  rw [← hp1] at z1
  rw [← hp2] at z2
  rw [← hp1,← hp2,← hp3]
  obtain ⟨r0,hr0⟩:∃ y,y=p1 &&& (255 - p3):=⟨_,rfl⟩
  rw [← hr0] at hv0 q1
  obtain ⟨r1,hr1⟩:∃ y,y=p3 &&& p2:=⟨_,rfl⟩
  rw [← hr1] at hv1 hv2 ⊢
  obtain ⟨r2,hr2⟩:∃ y,y=r1 ||| p1:=⟨_,rfl⟩
  rw [← hr2] at hv2 ⊢
  have hq:((r0:Int) == 0)=false:=by
   rw [beq_eq_false_iff_ne]
   omega
  clear hp1 hp2 hp3 x1 x2 ha hb hl1 hl2 hone hw hr0 hr1 hr2 q1 q2
  go_enter Try.func25,Try.ntmps25
  go_wp2
  go_quiet (fail)
  go_wp2
  go_ret
  exact ⟨rfl,below_drewN (Below.refl _ _) _⟩
end Go.Proofs.Ytdbeiikaeccbhaa
