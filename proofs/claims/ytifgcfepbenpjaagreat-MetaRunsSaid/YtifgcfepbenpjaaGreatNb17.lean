/- Texts of layers 1 to 12, joined. -/
import Derived.Test.YtifgcfepbenpjaaGreatNb16
import Derived.Deep.CutBlock
import Derived.Deep.RegionHeld3
import Derived.Deep.RegionWith
import Derived.Deep.Cut
import Derived.Deep.CutRange
import Derived.Lib.SlBytesConst
import Derived.Lib.QuoteBits
import Derived.Deep.AppendSrc
set_option maxRecDepth 100000
set_option maxHeartbeats 12800000
set_option linter.unusedVariables false
namespace Go.Proofs.YtifgcfepbenpjaaGreat
def mayT (P T A M W Q:Int) (S:List Sec) (C:List Pnd):Prop:=mayC P T A M W Q∧mayD S C=true∧(S.length:Int)=fE P T A
instance (P T A M W Q:Int) (S:List Sec) (C:List Pnd):Decidable (mayT P T A M W Q S C):=by unfold mayT;infer_instance
def tcE (P T A M W Q:Int) (S:List Sec) (C:List Pnd):Int:=if mayT P T A M W Q S C then 0 else 8
theorem held_bytes {l:List (Option Txt)}:∀ (k:Nat) (ps:List Prt),heldTo l k=some ps→(∀ i T,i < k→l.getD i none=some T→∀ z ∈ T,isByte z)→∀ p ∈ ps,∀ z ∈ p.2,isByte z:=by
 intro k
 induction k with
 | zero =>
  intro ps h _ p hp
  rw [heldTo] at h
  injection h with h
  subst h
  simp at hp
 | succ k ih =>
  intro ps h hl
  rw [heldTo] at h
  rcases h1:heldTo l k with _ | qs
  ·rw [h1] at h;cases h
  ·rw [h1] at h
   dsimp only at h
   rcases h2:partO k (l.getD k none) with _ | q
   ·rw [h2] at h;cases h
   ·rw [h2] at h
    dsimp only at h
    split at h
    ·injection h with h
     subst h
     intro p hp
     rcases List.mem_append.1 hp with hp | hp
     ·exact ih qs h1 (fun i T hi=>hl i T (by omega)) p hp
     ·rw [List.mem_singleton] at hp
      subst hp
      rcases h3:l.getD k none with _ | T
      ·rw [h3] at h2;cases h2
      ·rw [h3] at h2
       unfold partO at h2
       dsimp only at h2
       split at h2
       ·injection h2 with h2
        subst h2
        exact partB_byte (hl k T (by omega) h3)
       ·cases h2
    ·cases h
theorem slotB_byte {l:List (Option Txt)} (hl:∀ i T,l.getD i none=some T→∀ z ∈ T,isByte z):∀ z ∈ slotB l,isByte z:=by
 unfold slotB
 rcases h:heldTo l l.length with _ | ps
 ·simp
 ·intro z hz
  dsimp only at hz
  unfold joinB at hz
  obtain ⟨x,hx,hzx⟩:=List.mem_flatten.1 hz
  obtain ⟨p,hp,rfl⟩:=List.mem_map.1 hx
  exact held_bytes _ ps h (fun i T _=>hl i T) p hp z hzx
theorem opts_byte {S:List Sec} {C:List Pnd} (hS:∀ s ∈ S,∀ z ∈ s.2,isByte z) (hC:∀ p ∈ C,∀ z ∈ p.2,isByte z) (a:Int) (n i:Nat) (T:Txt) (h:(optsOf S C a n).getD i none=some T):∀ z ∈ T,isByte z:=by
 rcases Nat.lt_or_ge i n with hi | hi
 ·rw [optsOf_get S C a hi] at h
  unfold optAt at h
  split at h
  ·rename_i h0
   injection h with h
   subst h
   exact (rd_good h0 hS hC).2
  ·cases h
 ·rw [gtD,List.getElem?_eq_none (by rw [optsOf_length];exact hi)] at h
  cases h
theorem crB_byte {S:List Sec} {C:List Pnd} (hS:∀ s ∈ S,∀ z ∈ s.2,isByte z) (hC:∀ p ∈ C,∀ z ∈ p.2,isByte z) (a wd:Int):∀ z ∈ crB S C a wd,isByte z:=by
 unfold crB
 split
 ·unfold hB
  split
  ·exact slotB_byte fun i T h=>opts_byte hS hC a (2 * wd.toNat) (wd.toNat + i) T (by rwa [getD_drop] at h)
  ·refine slotB_byte fun i T h=>?_
   rcases Nat.lt_or_ge i wd.toNat with hi | hi
   ·exact opts_byte hS hC a (2 * wd.toNat) i T (by rwa [getD_take hi] at h)
   ·rw [gtD,List.getElem?_eq_none (by rw [List.length_take];omega)] at h
    cases h
 ·simp
end Go.Proofs.YtifgcfepbenpjaaGreat
namespace Go.Proofs.YtifgcfepbenpjaaGreat
abbrev Sup:=Int × Int × Int
def isS (s:Sup):Prop:=(0≤s.1∧s.1 < 4294967296)∧(0≤s.2.2∧s.2.2 < 18446744073709551616)
def arS (a:Int):Prop:=a=0∨a=1
instance (a:Int):Decidable (arS a):=by unfold arS;infer_instance
def sz3:List Int:=[4,1,8]
def suT (s:Sup):Txt:=rowTo [s.1,s.2.1,s.2.2] sz3 3
def suOk (t:Txt):Prop:=t.length=13∧t.getD 4 0≤1
instance (t:Txt):Decidable (suOk t):=by unfold suOk;infer_instance
def suV (t:Txt):Sup:=(val (t.take 4),t.getD 4 0,val (t.drop 5))
def smE (S:List Sec) (C:List Pnd):Int:=if crE S C 0 1=0 then (if suOk (crB S C 0 1) then 0 else 90) else 0
def smV (S:List Sec) (C:List Pnd):Sup:=if crE S C 0 1=0 then (if suOk (crB S C 0 1) then suV (crB S C 0 1) else (0,0,0)) else (0,0,0)
def srE (P T A M W Q:Int) (S:List Sec) (C:List Pnd):Int:=if mayT P T A M W Q S C then smE S C else 8
def srV (P T A M W Q:Int) (S:List Sec) (C:List Pnd):Sup:=if mayT P T A M W Q S C then smV S C else (0,0,0)
def spE (P T A M W Q:Int) (S:List Sec) (C:List Pnd) (s:Sup):Int:=if mayT P T A M W Q S C then (if arS s.2.1 then cpE S C 0 1 (suT s) else 2) else 8
def spL (P T A M W Q:Int) (S:List Sec) (C:List Pnd) (s:Sup):List Pnd:=if spE P T A M W Q S C s=0 then cpL S C 0 1 (suT s) else []
theorem okB_sz3:okB sz3=true:=by decide
theorem at_sz3:atTo sz3 3=13:=by decide
theorem suT_length (s:Sup):(suT s).length=13:=by unfold suT;rw [rowTo_length];rfl
theorem suT_byte (s:Sup):∀ z ∈ suT s,isByte z:=rowTo_byte _ _ _
theorem suT_eq (s:Sup):suT s=digs 4 s.1 ++ (s.2.1 % 256 :: digs 8 s.2.2):=by
 have h:suT s=(([] ++ digs 4 s.1) ++ digs 1 s.2.1) ++ digs 8 s.2.2:=rfl
 rw [h]
 simp [digs]
theorem fits3 {s:Sup} (h:isS s) (ha:0≤s.2.1∧s.2.1 < 256):fitsTo [s.1,s.2.1,s.2.2] sz3 3=true:=by
 obtain ⟨hv,hg⟩:=h
 have h1:s.1 / 256 ^ 4=0:=Int.ediv_eq_zero_of_lt hv.1 (by rw [show (256:Int) ^ 4=4294967296 by decide];exact hv.2)
 have h2:s.2.1 / 256 ^ 1=0:=Int.ediv_eq_zero_of_lt ha.1 (by omega)
 have h3:s.2.2 / 256 ^ 8=0:=Int.ediv_eq_zero_of_lt hg.1 (by rw [show (256:Int) ^ 8=18446744073709551616 by decide];exact hg.2)
 show (((true && decide (s.1 / 256 ^ 4=0)) && decide (s.2.1 / 256 ^ 1=0)) && decide (s.2.2 / 256 ^ 8=0))=true
 rw [h1,h2,h3]
 decide
theorem sup_back {s:Sup} (h:isS s) (ha:arS s.2.1):suOk (suT s)∧suV (suT s)=s:=by
 obtain ⟨hv,hg⟩:=h
 have e4:(digs 4 s.1).length=4:=digs_length _ _
 have v1:val (digs 4 s.1)=s.1:=val_digs _ _ hv.1 (Int.ediv_eq_zero_of_lt hv.1 (by rw [show (256:Int) ^ 4=4294967296 by decide];exact hv.2))
 have v2:val (digs 8 s.2.2)=s.2.2:=val_digs _ _ hg.1 (Int.ediv_eq_zero_of_lt hg.1 (by rw [show (256:Int) ^ 8=18446744073709551616 by decide];exact hg.2))
 have ea:s.2.1 % 256=s.2.1:=by rcases ha with h | h <;> rw [h] <;> rfl
 have g4:(suT s).getD 4 0=s.2.1:=by
  rw [suT_eq,gtD,List.getElem?_append_right (by omega),e4]
  simpa using ea
 refine ⟨⟨suT_length s,by rw [g4];rcases ha with h | h <;> omega⟩,?_⟩
 unfold suV
 rw [g4]
 have t1:(suT s).take 4=digs 4 s.1:=by rw [suT_eq,List.take_append_of_le_length (by omega),List.take_of_length_le (by omega)]
 have t2:(suT s).drop 5=digs 8 s.2.2:=by
  rw [suT_eq,show 5=(digs 4 s.1).length + 1 by rw [e4],List.drop_append]
  simp
 rw [t1,t2,v1,v2]
theorem suV_is {t:Txt} (ht:t.length=13) (hb:∀ z ∈ t,isByte z):isS (suV t)∧isByte (suV t).2.1:=by
 have h4:=val_bounds (t.take 4) fun z hz=>hb z (List.mem_of_mem_take hz)
 have h8:=val_bounds (t.drop 5) fun z hz=>hb z (List.mem_of_mem_drop hz)
 rw [List.length_take,ht] at h4
 rw [List.length_drop,ht] at h8
 have p4:(256:Int) ^ (min 4 13)=4294967296:=by decide
 have p8:(256:Int) ^ (13 - 5)=18446744073709551616:=by decide
 rw [p4] at h4
 rw [p8] at h8
 exact ⟨⟨h4,h8⟩,byte_getD hb 4⟩
theorem held_few {l:List (Option Txt)}:∀ (k:Nat) (ps:List Prt),heldTo l k=some ps→ps.length=k∧∀ p ∈ ps,p.2.length≤24:=by
 intro k
 induction k with
 | zero =>
  intro ps h
  rw [heldTo] at h
  injection h with h
  subst h
  exact ⟨rfl,fun p hp=>absurd hp (by simp)⟩
 | succ k ih =>
  intro ps h
  rw [heldTo] at h
  rcases h1:heldTo l k with _ | qs
  ·rw [h1] at h;cases h
  ·rw [h1] at h
   dsimp only at h
   obtain ⟨i1,i2⟩:=ih qs h1
   rcases h2:partO k (l.getD k none) with _ | q
   ·rw [h2] at h;cases h
   ·rw [h2] at h
    dsimp only at h
    split at h
    ·injection h with h
     subst h
     refine ⟨by rw [List.length_append,i1];rfl,fun p hp=>?_⟩
     rcases List.mem_append.1 hp with hp | hp
     ·exact i2 p hp
     ·rw [List.mem_singleton] at hp
      subst hp
      exact partO_small h2
    ·cases h
theorem slotB_few (l:List (Option Txt)):(slotB l).length≤24 * l.length:=by
 unfold slotB
 rcases h:heldTo l l.length with _ | ps
 ·simp
 ·obtain ⟨h1,h2⟩:=held_few _ ps h
  have:=joinB_length h2
  rwa [h1] at this
theorem crB_few (S:List Sec) (C:List Pnd):(crB S C 0 1).length≤24:=by
 unfold crB
 split
 ·unfold hB
  split
  ·exact Nat.le_trans (slotB_few _) (by rw [List.length_drop,optsOf_length];decide)
  ·refine Nat.le_trans (slotB_few _) ?_
   rw [List.length_take]
   have h1:=Nat.min_le_left (Int.toNat 1) (optsOf S C 0 (2 * Int.toNat 1)).length
   have e:Int.toNat 1=1:=rfl
   omega
 ·simp
theorem nums3_eq (t:Txt) (ht:t.length=13):numsTo t sz3 3=[(suV t).1,(suV t).2.1,(suV t).2.2]:=by
 have h:numsTo t sz3 3=(([] ++ [val ((t.drop 0).take 4)]) ++ [val ((t.drop 4).take 1)]) ++ [val ((t.drop 5).take 8)]:=rfl
 rw [h,val_one (by omega),List.take_of_length_le (l:=t.drop 5) (by rw [List.length_drop];omega)]
 rfl
theorem smV_is {S:List Sec} {C:List Pnd} (hS:∀ s ∈ S,∀ z ∈ s.2,isByte z) (hC:∀ p ∈ C,∀ z ∈ p.2,isByte z):isS (smV S C):=by
 have h0:isS (0,0,0):=⟨⟨by decide,by decide⟩,⟨by decide,by decide⟩⟩
 unfold smV
 split
 ·split
  ·rename_i h;exact (suV_is h.1 (crB_byte hS hC 0 1)).1
  ·exact h0
 ·exact h0
theorem cell_zero {P T A M W Q:Int} {S:List Sec} {C:List Pnd} (h:mayT P T A M W Q S C):cellE S C 0 1=0:=by
 obtain ⟨h1,h2,h3⟩:=h
 obtain ⟨b1,b2,b3,b4,b5,b6,b7⟩:=bounds_may h1
 have hle:=fE_le h1
 obtain ⟨c1,c2,c3,c4,c5,c6,c7⟩:=h1
 have m1:=mul3 (a:=P) (by omega) (by omega) T
 unfold cellE
 unfold fE at h3 hle
 rw [if_pos h2,if_pos (by omega)]
theorem crE_or {P T A M W Q:Int} {S:List Sec} {C:List Pnd} (h:mayT P T A M W Q S C):crE S C 0 1=0∨crE S C 0 1=6:=by
 unfold crE
 rw [if_pos (cell_zero h)]
 split
 ·exact .inr rfl
 ·exact .inl rfl
theorem sm_like {S S':List Sec} {C C':List Pnd} (h1:crE S' C' 0 1=crE S C 0 1) (h2:crB S' C' 0 1=crB S C 0 1):smE S' C'=smE S C∧smV S' C'=smV S C:=by
 unfold smE smV
 rw [h1,h2]
 exact ⟨rfl,rfl⟩
theorem sm_new {S:List Sec} {C:List Pnd} {s:Sup} (h1:crE S C 0 1=0) (h2:crB S C 0 1=suT s) (h:isS s) (ha:arS s.2.1):smE S C=0∧smV S C=s:=by
 obtain ⟨k1,k2⟩:=sup_back h ha
 unfold smE smV
 rw [if_pos h1,if_pos h1,h2,if_pos k1,if_pos k1,k2]
 exact ⟨rfl,rfl⟩
theorem spE_zero {P T A M W Q:Int} {S:List Sec} {C:List Pnd} {s:Sup} (h:spE P T A M W Q S C s=0):mayT P T A M W Q S C∧arS s.2.1∧cpE S C 0 1 (suT s)=0:=by
 unfold spE at h
 split at h
 ·rename_i h1
  split at h
  ·rename_i h2;exact ⟨h1,h2,h⟩
  ·cases h
 ·cases h
theorem spL_good {P T A M W Q:Int} {S:List Sec} {C:List Pnd} {s:Sup} (h:spE P T A M W Q S C s=0):(cpL S C 0 1 (suT s)).length=1 ∧
  ∀ p ∈ cpL S C 0 1 (suT s),(0≤p.1∧p.1 < (S.length:Int)∧p.2.length=32)∧∀ z ∈ p.2,isByte z:=by
 obtain ⟨_,_,h3⟩:=spE_zero h
 obtain ⟨k1,_,_,_,k5⟩:=cpL_good h3 (suT_byte s)
 exact ⟨k1,k5⟩
theorem opt_flush {S:List Sec} {C:List Pnd} (h:mayD S C=true) (a:Int):optAt (flS S C) [] a=optAt S C a:=by
 obtain ⟨r1,r2⟩:=rd_flush h a
 unfold optAt
 rw [r1,r2]
theorem cr_flush {S:List Sec} {C:List Pnd} {a m:Nat} (h:cellE S C a m=0) :
  crE (flS S C) [] a m=crE S C a m∧crV (flS S C) [] a m=crV S C a m∧crB (flS S C) [] a m=crB S C a m:=by
 have h0:=(cellE_zero h).1
 obtain ⟨hm,hl⟩:=cr_may h0 (List.replicate C.length 1)
 have e:optsOf (flS S C) [] a (2 * m)=optsOf S C a (2 * m):=by
  unfold optsOf
  exact List.map_congr_left fun i _=>opt_flush h0 _
 exact cr_same h (cellE_like h hm hl) (by rw [e]) (by rw [e])
theorem sup_tells {P T A M W Q:Int} {S:List Sec} {C:List Pnd} {s:Sup} (h:spE P T A M W Q S C s=0) (hs:isS s) (hS:∀ x ∈ S,∀ z ∈ x.2,isByte z) (hC:∀ p ∈ C,∀ z ∈ p.2,isByte z) (h64:C.length + 1≤64) (F:List Int) :
  mayD S (C ++ cpL S C 0 1 (suT s))=true ∧
  (srE P T A M W Q S (C ++ cpL S C 0 1 (suT s))=0∧srV P T A M W Q S (C ++ cpL S C 0 1 (suT s))=s) ∧
  ((srE P T A M W Q (crS S (C ++ cpL S C 0 1 (suT s)) F) []=srE P T A M W Q S C∧srV P T A M W Q (crS S (C ++ cpL S C 0 1 (suT s)) F) []=srV P T A M W Q S C) ∨
   (srE P T A M W Q (crS S (C ++ cpL S C 0 1 (suT s)) F) []=0∧srV P T A M W Q (crS S (C ++ cpL S C 0 1 (suT s)) F) []=s)) ∧
  (srE P T A M W Q (flS S (C ++ cpL S C 0 1 (suT s))) []=0∧srV P T A M W Q (flS S (C ++ cpL S C 0 1 (suT s))) []=s):=by
 obtain ⟨hm,ha,hp⟩:=spE_zero h
 have hl1:=(spL_good h).1
 have hcw:cwE S C 0 1 (suT s)=0:=by
  unfold cwE
  rw [if_pos hp,if_neg (by omega)]
 obtain ⟨r1,r2,_⟩:=back hcw (suT_byte s) hS hC
 have ct:=crash_tells (a:=0) (m:=1) hp (suT_byte s) hS hC (k:=1) (Nat.le_refl _) h64 F
 rw [show ((0:Nat):Int)=0 from rfl,show ((1:Nat):Int)=1 from rfl,List.take_of_length_le (by omega)] at ct
 obtain ⟨hmay',_,hcr⟩:=ct
 obtain ⟨hcm,hcl⟩:=cr_may hmay' F
 obtain ⟨hfm,hfl⟩:=cr_may hmay' (List.replicate (C ++ cpL S C 0 1 (suT s)).length 1)
 have m1:mayT P T A M W Q S (C ++ cpL S C 0 1 (suT s)):=⟨hm.1,hmay',hm.2.2⟩
 have m2:mayT P T A M W Q (crS S (C ++ cpL S C 0 1 (suT s)) F) []:=⟨hm.1,hcm,by rw [hcl];exact hm.2.2⟩
 have m3:mayT P T A M W Q (flS S (C ++ cpL S C 0 1 (suT s))) []:=⟨hm.1,hfm,by rw [show (flS S (C ++ cpL S C 0 1 (suT s))).length=S.length from hfl];exact hm.2.2⟩
 have cf:=cr_flush (a:=0) (m:=1) (cell_zero m1)
 rw [show ((0:Nat):Int)=0 from rfl,show ((1:Nat):Int)=1 from rfl] at cf
 obtain ⟨f1,_,f3⟩:=cf
 unfold srE srV
 rw [if_pos hm,if_pos hm,if_pos m1,if_pos m1,if_pos m2,if_pos m2,if_pos m3,if_pos m3]
 refine ⟨hmay',sm_new r1 r2 hs ha,?_,sm_new (by rw [f1,r1]) (by rw [f3,r2]) hs ha⟩
 rcases hcr with ⟨e1,_,e3⟩ | ⟨e1,e3,_⟩
 ·exact .inl (sm_like e1 e3)
 ·exact .inr (sm_new e1 e3 hs ha)
end Go.Proofs.YtifgcfepbenpjaaGreat
namespace Go.Proofs.YtifgcfepbenpjaaGreat
open Go.RowKit
structure TBox (w:World) (G:Nat) (P T A M W Q:Int) (D:Option Addr) (n c:Nat) (D':Option Addr) (n' c':Nat) (S:List Sec) (C:List Pnd):Prop where
 cfg:Blk w G 36 [.int .i64 P,.int .i64 T,.int .i64 A,.int .i64 M,.int .i64 W,.int .i64 Q]
 dsk:DBox w (G + 1) D n c D' n' c' S C
section
variable {w w':World} {G:Nat} {P T A M W Q:Int} {D D':Option Addr} {n c n' c':Nat} {S:List Sec} {C:List Pnd}
theorem TBox.below (x:TBox w G P T A M W Q D n c D' n' c' S C) (hb:Below w.heap.size w w'):TBox w' G P T A M W Q D n c D' n' c' S C:=⟨x.cfg.below hb x.cfg.lt,x.dsk.below hb⟩
theorem TBox.new (P T A M W Q:Int) (t:Dsk w D n c D' n' c' S C) :
  TBox ((w.alloc (.cells #[.int .i64 P,.int .i64 T,.int .i64 A,.int .i64 M,.int .i64 W,.int .i64 Q] 36)).alloc (.cells #[.slice D n c,.slice D' n' c'] 25)) w.heap.size P T A M W Q D n c D' n' c' S C ∧
  Below w.heap.size w ((w.alloc (.cells #[.int .i64 P,.int .i64 T,.int .i64 A,.int .i64 M,.int .i64 W,.int .i64 Q] 36)).alloc (.cells #[.slice D n c,.slice D' n' c'] 25)):=by
 obtain ⟨x,hb⟩:=box_cfg w P T A M W Q
 have y:=DBox.new (t.below hb)
 rw [World.size_alloc] at y
 exact ⟨⟨x.grown (World.grownBy_alloc _ _ none) (by simp),y⟩,hb.alloc hb.size _⟩
theorem TBox.cells (x:TBox w G P T A M W Q D n c D' n' c' S C):w.cell? ⟨G,0,none⟩=some (.int .i64 P)∧w.cell? ⟨G,1,none⟩=some (.int .i64 T)∧w.cell? ⟨G,2,none⟩=some (.int .i64 A)∧w.cell? ⟨G,3,none⟩=some (.int .i64 M)∧w.cell? ⟨G,4,none⟩=some (.int .i64 W)∧w.cell? ⟨G,5,none⟩=some (.int .i64 Q) ∧
  w.cell? ⟨G + 1,0,none⟩=some (.slice D n c)∧w.cell? ⟨G + 1,1,none⟩=some (.slice D' n' c') :=
 ⟨x.cfg.cell 0,x.cfg.cell 1,x.cfg.cell 2,x.cfg.cell 3,x.cfg.cell 4,x.cfg.cell 5,x.dsk.cells.1,x.dsk.cells.2⟩
end
theorem tcheck_any (P T A M W Q:Int) (D:Option Addr) (n c:Nat) (D':Option Addr) (n' c':Nat) (S:List Sec) (C:List Pnd) (w:World) (hq:Dsk w D n c D' n' c' S C) (hs:SmallD S C) :
  Calls Tryz.prog 66 #[cfgV P T A M W Q,diskV D n c D' n' c'] w fun e w'=>e=.returned (.int .i64 (tcE P T A M W Q S C))∧Below w.heap.size w w':=by
 obtain ⟨x,hbel⟩:=TBox.new P T A M W Q hq
 obtain ⟨w1,hw1⟩:∃ x:World,x=(w.alloc (.cells #[.int .i64 P,.int .i64 T,.int .i64 A,.int .i64 M,.int .i64 W,.int .i64 Q] 36)).alloc (.cells #[.slice D n c,.slice D' n' c'] 25):=⟨_,rfl⟩
 rw [← hw1] at x hbel
 have X:=Lh x
 have B:=Lh hbel
 have PS:=Lh (fun w':World=>psectors_any P T A M W Q w')
 have CK:=Lh (fun wx hx=>dsk_does.check D n c D' n' c' S C wx hx hs)
 have hsl:=hq.secs.len
 obtain ⟨c0,c1,c2,c3,c4,c5,d0,d1⟩:=x.cells
 clear hq hs x hbel
 unfold tcE
 by_cases h1:mayC P T A M W Q
 ·rw [show secN P T A M W Q=fE P T A from if_pos h1,show chkC P T A M W Q=0 from if_pos h1] at PS
  obtain ⟨m,hm⟩:∃ m,m=fE P T A:=⟨_,rfl⟩
  rw [← hm] at PS
  by_cases h2:mayD S C=true
  ·rw [show chkD S C=0 from if_pos h2] at CK
   by_cases h3:(n:Int)=m
   ·rw [if_pos (show mayT P T A M W Q S C from ⟨h1,h2,by rw [hsl,← hm];exact h3⟩)]
    have h4:((n:Int) == m)=true:=beq_iff_eq.2 h3
    have h5:((n:Int) != m)=false:=by rw [h3];exact bne_self_eq_false _
    clear h1 h2 h3 hm hsl
    go_enter Tryz.func66,Tryz.ntmps66
    go_wp2_with fail
    rw [← hw1]
    clear hw1
    refine (PS.out _).mono ?_
    rintro e w2 ⟨rfl,hb⟩
    have B:=Lh (B.out.trans (hb.mono B.out.size))
    have X:=Lh (X.out.below hb)
    clear hb c0 c1 c2 c3 c4 c5 d0 d1
    obtain ⟨c0,c1,c2,c3,c4,c5,d0,d1⟩:=X.out.cells
    go_wp2_with fail
    refine (CK.out _ X.out.dsk.dsk).mono ?_
    rintro e w3 ⟨rfl,hb⟩
    have B:=Lh (B.out.trans (hb.mono B.out.size))
    have X:=Lh (X.out.below hb)
    clear hb c0 c1 c2 c3 c4 c5 d0 d1
    obtain ⟨c0,c1,c2,c3,c4,c5,d0,d1⟩:=X.out.cells
    go_wp2
    go_ret
    exact ⟨rfl,B.out⟩
   ·rw [if_neg (fun h:mayT P T A M W Q S C=>h3 (by rw [← hsl,hm];exact h.2.2))]
    have h4:((n:Int) == m)=false:=beq_eq_false_iff_ne.2 h3
    have h5:((n:Int) != m)=true:=bne_iff_ne.2 h3
    clear h1 h2 h3 hm hsl
    go_enter Tryz.func66,Tryz.ntmps66
    go_wp2_with fail
    rw [← hw1]
    clear hw1
    refine (PS.out _).mono ?_
    rintro e w2 ⟨rfl,hb⟩
    have B:=Lh (B.out.trans (hb.mono B.out.size))
    have X:=Lh (X.out.below hb)
    clear hb c0 c1 c2 c3 c4 c5 d0 d1
    obtain ⟨c0,c1,c2,c3,c4,c5,d0,d1⟩:=X.out.cells
    go_wp2_with fail
    refine (CK.out _ X.out.dsk.dsk).mono ?_
    rintro e w3 ⟨rfl,hb⟩
    have B:=Lh (B.out.trans (hb.mono B.out.size))
    have X:=Lh (X.out.below hb)
    clear hb c0 c1 c2 c3 c4 c5 d0 d1
    obtain ⟨c0,c1,c2,c3,c4,c5,d0,d1⟩:=X.out.cells
    go_wp2
    go_ret
    exact ⟨rfl,B.out⟩
  ·rw [show chkD S C=8 from if_neg h2] at CK
   rw [if_neg (fun h:mayT P T A M W Q S C=>h2 h.2.1)]
   clear h1 h2 hm hsl
   go_enter Tryz.func66,Tryz.ntmps66
   go_wp2_with fail
   rw [← hw1]
   clear hw1
   refine (PS.out _).mono ?_
   rintro e w2 ⟨rfl,hb⟩
   have B:=Lh (B.out.trans (hb.mono B.out.size))
   have X:=Lh (X.out.below hb)
   clear hb c0 c1 c2 c3 c4 c5 d0 d1
   obtain ⟨c0,c1,c2,c3,c4,c5,d0,d1⟩:=X.out.cells
   go_wp2_with fail
   refine (CK.out _ X.out.dsk.dsk).mono ?_
   rintro e w3 ⟨rfl,hb⟩
   have B:=Lh (B.out.trans (hb.mono B.out.size))
   clear hb c0 c1 c2 c3 c4 c5 d0 d1
   go_wp2
   go_ret
   exact ⟨rfl,B.out⟩
 ·rw [show chkC P T A M W Q=8 from if_neg h1] at PS
  rw [if_neg (fun h:mayT P T A M W Q S C=>h1 h.1)]
  obtain ⟨m,hm⟩:∃ m,m=secN P T A M W Q:=⟨_,rfl⟩
  rw [← hm] at PS
  clear h1 hm hsl
  go_enter Tryz.func66,Tryz.ntmps66
  go_wp2_with fail
  rw [← hw1]
  clear hw1
  refine (PS.out _).mono ?_
  rintro e w2 ⟨rfl,hb⟩
  have B:=Lh (B.out.trans (hb.mono B.out.size))
  clear hb c0 c1 c2 c3 c4 c5 d0 d1
  go_wp2
  go_ret
  exact ⟨rfl,B.out⟩
end Go.Proofs.YtifgcfepbenpjaaGreat
