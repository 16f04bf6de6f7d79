/- Texts of layers 1 to 12, joined. -/
import Derived.Test.YtifgcfepbenpjaaGreatNa4
import Derived.StillTailTactics
import Derived.Deep.RegionWith
set_option maxRecDepth 100000
set_option maxHeartbeats 12800000
set_option linter.unusedVariables false
namespace Go.Proofs.YtifgcfepbenpjaaGreat
open Go.RowKit
theorem OwnSecs.row {w:World} {base:Nat} {A:Option Addr} {n c:Nat} {ss:List Sec} (h:OwnSecs w base A n c ss) {i:Nat} (hi:i < n) :
  ∃ gA Ai ni ci,A=some ⟨gA,0,none⟩∧base≤gA∧w.cell? ⟨gA,i * 2,none⟩=some (.slice Ai ni ci)∧w.cell? ⟨gA,i * 2 + 1,none⟩=some (.bool (ss.getD i (false,[])).1)∧w.frozen? ⟨gA,i * 2 + 1,none⟩=false∧OwnTxt w base Ai ni ci (ss.getD i (false,[])).2∧(ss.getD i (false,[])).2.length=ni∧ni≤ci∧ci≤maxLen:=by
 obtain ⟨vs,hown,hl,hby,hin⟩:=h
 obtain ⟨Ai,ni,ci,hv,hx,ho⟩:=hin i hi
 obtain ⟨g,u,e,hbg,_⟩:=owns_at2 hown (show i * 2 < n * 2 by omega)
 obtain ⟨b,e',hlt,hc⟩:=owns_cell hown hv
 obtain ⟨b',e'',_,hcx⟩:=owns_cell hown hx
 rw [e] at e' e''
 cases e'
 cases e''
 have hni:(ss.getD i (false,[])).2.length=ni:=ho.1
 have harg:=ho.arg
 subst e
 exact ⟨g,Ai,ni,ci,rfl,hbg,hc,hcx,hown.frozenAt _,ho,hni,harg.cap,harg.max⟩
theorem OwnPnds.row {w:World} {base:Nat} {A:Option Addr} {n c:Nat} {ss:List Pnd} (h:OwnPnds w base A n c ss) {i:Nat} (hi:i < n) :
  ∃ gA Ai ni ci,A=some ⟨gA,0,none⟩∧base≤gA∧w.cell? ⟨gA,i * 2 + 1,none⟩=some (.slice Ai ni ci)∧w.cell? ⟨gA,i * 2,none⟩=some (.int .i64 (ss.getD i (0,[])).1)∧w.frozen? ⟨gA,i * 2,none⟩=false∧OwnTxt w base Ai ni ci (ss.getD i (0,[])).2∧(ss.getD i (0,[])).2.length=ni∧ni≤ci∧ci≤maxLen:=by
 obtain ⟨vs,hown,hl,hby,hin⟩:=h
 obtain ⟨Ai,ni,ci,hv,hx,ho⟩:=hin i hi
 obtain ⟨g,u,e,hbg,_⟩:=owns_at2 hown (show i * 2 < n * 2 by omega)
 obtain ⟨b,e',hlt,hc⟩:=owns_cell hown hv
 obtain ⟨b',e'',_,hcx⟩:=owns_cell hown hx
 rw [e] at e' e''
 cases e'
 cases e''
 have hni:(ss.getD i (0,[])).2.length=ni:=ho.1
 have harg:=ho.arg
 subst e
 exact ⟨g,Ai,ni,ci,rfl,hbg,hc,hcx,hown.frozenAt _,ho,hni,harg.cap,harg.max⟩
theorem getD_mem (l:List Int) (k:Nat) (h:k < l.length):l.getD k 0 ∈ l:=by
 rw [gtD,geE h]
 exact List.getElem_mem h
theorem OwnPnds.out_len {w:World} {base:Nat} {A:Option Addr} {n c:Nat} {S:List Pnd} (h:OwnPnds w base A n c S):S.length=n:=by
 obtain ⟨_,_,hl,_⟩:=h
 exact hl
theorem SmallD.sec_at {S:List Sec} {C:List Pnd} (h:SmallD S C) (k:Nat):(S.getD k (false,[])).2.length≤100:=by
 rcases Nat.lt_or_ge k S.length with hk | hk
 ·rw [gtD,geE hk,Option.getD_some]
  exact h.long _ (List.getElem_mem hk)
 ·rw [gtD,List.getElem?_eq_none hk]
  simp
theorem SmallD.pnd_at {S:List Sec} {C:List Pnd} (h:SmallD S C) (k:Nat):(C.getD k (0,[])).2.length≤100:=by
 rcases Nat.lt_or_ge k C.length with hk | hk
 ·rw [gtD,geE hk,Option.getD_some]
  exact h.wide _ (List.getElem_mem hk)
 ·rw [gtD,List.getElem?_eq_none hk]
  simp
structure DskDoes:Prop where
 new:∀ (m:Int) (w:World),m≤100∨1024 < m→Calls Tryz.prog 33 #[.int .i64 m] w (DiskOut w (newS m) [] (newE m))
 check:∀ (A:Option Addr) (n c:Nat) (A':Option Addr) (n' c':Nat) (S:List Sec) (C:List Pnd) (w:World),Dsk w A n c A' n' c' S C→SmallD S C→Calls Tryz.prog 59 #[diskV A n c A' n' c'] w fun e w'=>e=.returned (.int .i64 (chkD S C))∧Below w.heap.size w w'
 write:∀ (A:Option Addr) (n c:Nat) (A':Option Addr) (n' c':Nat) (S:List Sec) (C:List Pnd) (at_:Int) (Ab:Option Addr) (nb cb:Nat) (b:Txt) (w:World),Dsk w A n c A' n' c' S C→SmallD S C→Arg w .u8 Ab nb cb b→(∀ z ∈ b,isByte z)→b.length≤100 →
  Calls Tryz.prog 45 #[diskV A n c A' n' c',.int .i64 at_,.slice Ab nb cb] w (DiskOut w (wrS S C at_ b) (wrC S C at_ b) (wrE S C at_ b))
 read:∀ (A:Option Addr) (n c:Nat) (A':Option Addr) (n' c':Nat) (S:List Sec) (C:List Pnd) (at_:Int) (w:World),Dsk w A n c A' n' c' S C→SmallD S C→Calls Tryz.prog 128 #[diskV A n c A' n' c',.int .i64 at_] w (BytesOut w (rdB S C at_) (rdE S C at_))
 waits:∀ (A:Option Addr) (n c:Nat) (A':Option Addr) (n' c':Nat) (S:List Sec) (C:List Pnd) (at_:Int) (w:World),Dsk w A n c A' n' c' S C→SmallD S C→Calls Tryz.prog 202 #[diskV A n c A' n' c',.int .i64 at_] w fun e w'=>e=.returned (.tuple #[.bool (waB S C at_),.int .i64 (askE S C at_)])∧Below w.heap.size w w'
 flush:∀ (A:Option Addr) (n c:Nat) (A':Option Addr) (n' c':Nat) (S:List Sec) (C:List Pnd) (w:World),Dsk w A n c A' n' c' S C→SmallD S C→Calls Tryz.prog 44 #[diskV A n c A' n' c'] w (DiskOut w (flS S C) [] (chkD S C))
 crash:∀ (A:Option Addr) (n c:Nat) (A':Option Addr) (n' c':Nat) (S:List Sec) (C:List Pnd) (Af:Option Addr) (nf cf:Nat) (F:List Int) (w:World),Dsk w A n c A' n' c' S C→SmallD S C→Arg w .u8 Af nf cf F→(∀ z ∈ F,isByte z)→F.length≤200 →
  Calls Tryz.prog 29 #[diskV A n c A' n' c',.slice Af nf cf] w (DiskOut w (crS S C F) [] (chkD S C))
 twin:∀ (A:Option Addr) (n c:Nat) (A':Option Addr) (n' c':Nat) (S:List Sec) (C:List Pnd) (w:World),Dsk w A n c A' n' c' S C→SmallD S C→Calls Tryz.prog 86 #[diskV A n c A' n' c'] w fun e w'=>∃ B d B' d',e=.returned (diskV B n d B' n' d')∧OwnDsk w' w.heap.size B n d B' n' d' S C∧Below w.heap.size w w'
structure DBox (w:World) (G:Nat) (A:Option Addr) (n c:Nat) (A':Option Addr) (n' c':Nat) (S:List Sec) (C:List Pnd):Prop where
 blk:Blk w G 25 [.slice A n c,.slice A' n' c']
 dsk:Dsk w A n c A' n' c' S C
section
variable {w w':World} {G:Nat} {A A':Option Addr} {n c n' c':Nat} {S:List Sec} {C:List Pnd}
theorem DBox.below (x:DBox w G A n c A' n' c' S C) (hb:Below w.heap.size w w'):DBox w' G A n c A' n' c' S C:=⟨x.blk.below hb x.blk.lt,x.dsk.below hb⟩
theorem DBox.new (t:Dsk w A n c A' n' c' S C):DBox (w.alloc (.cells #[.slice A n c,.slice A' n' c'] 25)) w.heap.size A n c A' n' c' S C :=
 ⟨Blk.new w 25 [.slice A n c,.slice A' n' c'],t.below ((Below.refl _ _).alloc (Nat.le_refl _) _)⟩
theorem DBox.cells (x:DBox w G A n c A' n' c' S C):w.cell? ⟨G,0,none⟩=some (.slice A n c)∧w.cell? ⟨G,1,none⟩=some (.slice A' n' c'):=⟨x.blk.cell 0,x.blk.cell 1⟩
end
theorem sameD_self (S:List Sec) (C:List Pnd):sameD S C S C=true:=by simp [sameD]
theorem same_yes (A:Option Addr) (n c:Nat) (A':Option Addr) (n' c':Nat) (S:List Sec) (C:List Pnd) (B:Option Addr) (m d:Nat) (B':Option Addr) (m' d':Nat) (w:World) (ha:Dsk w A n c A' n' c' S C) (hb:Dsk w B m d B' m' d' S C) :
  Calls Tryz.prog 26 #[diskV A n c A' n' c',diskV B m d B' m' d'] w fun e w'=>e=.returned (.bool true)∧Below w.heap.size w w':=by
 have:=same_any A n c A' n' c' S C B m d B' m' d' S C w ha hb
 rwa [sameD_self] at this
theorem str_arg {w:World} {A:Option Addr} {n c:Nat} {zs:List Int} (h:Arg w .u8 A n c zs):(convert 42 9 (.slice A n c)).run Tryz.prog w=.ok (.string (strOfNums zs)) w :=
 run_str (P:=Tryz.prog) w 42 9 5 Tryz.underlying42 Tryz.underlying5 Tryz.underlying9 (c:=c) h.seq h.len
def DigOut (n:Nat) (v:Int) (w:World) (e:Ending) (w':World):Prop :=
 ∃ A c,e=.returned (.tuple #[.slice A n c,.bool (decide (v / 256 ^ n=0))])∧w'.ownsRow w.heap.size 5 1 (.slice A n c) n (ints .u8 (digs n v))∧Below w.heap.size w w'
theorem digits_any (n:Nat) (v:Int) (w:World) (hn:n≤100) (h0:0≤v) (h1:v < 18446744073709551616) :
  Calls Tryz.prog 173 #[.int .u64 v,.int .i64 n] w (DigOut n v w):=by
 obtain ⟨i0,hi0,hz0,hz1,hz2⟩:=info_parts byte_info
 go_enter Tryz.func173,Tryz.ntmps173
 go_wp2
 go_loopw [0,6,7] (fun u out i wr=>∃ k:Nat,k≤n∧i=.int .i64 k∧u=.int .u64 (v / 256 ^ k)∧(∃ A c,out=.slice A k c)∧wr.ownsRow w.heap.size 5 1 out k (ints .u8 (digs k v))∧Below w.heap.size w wr) (fun _ _ i _=>n - (intOf i).toNat)
 case atStart=>exact ⟨0,Nat.zero_le _,rfl,by simp,⟨_,_,rfl⟩,World.ownsRow_nil _ _ _ _,Below.refl _ _⟩
 case round =>
  obtain ⟨k,hk,rfl,rfl,⟨A,c,rfl⟩,hown,hbel⟩:=hrel
  by_cases hkn:k < n
  ·have hq:0≤v / 256 ^ k:=Int.ediv_nonneg h0 (Int.le_of_lt (Int.pow_pos (by omega)))
   obtain ⟨q,hqe⟩:∃ q,q=v / 256 ^ k:=⟨_,rfl⟩
   rw [← hqe] at hq ⊢
   have hq2:q < 18446744073709551616:=by
    have:=Int.ediv_le_self (a:=v) (256 ^ k) h0
    omega
   have HQ:=Lh hqe
   have HO:=Lh hown
   have HBL:=Lh hbel
   clear hqe hown hbel
   have hsz:=HBL.out.size
   have hsrc:=(Seq.own HO.out).alloc (Nat.le_refl _) (.cells #[.int .u8 (q % 256)] 5)
   have hlit:=World.ownsRow_lit (base:=w.heap.size) (e:=5) (size:=1) wr #[.int .u8 (q % 256)] 1 hsz (by decide) rfl
   have HS:=Lh hsrc
   have HL:=Lh hlit
   clear hsrc hlit
   go_wp2_with (at_builtin;go_must (refine wpList_app _ rfl (.tmp 16) (.tmp 17) _ rfl w.heap.size 5 i0 _ 1 Tryz.underlying42 hi0 hz0 hz1 hz2 rfl _ 1 _ rfl HL.out wr.heap.size A k c (ints .u8 (digs k v)) rfl (by rw [ints_length,digs_length]) HS.out (ints_one _ _) (by simp only [maxLen];omega) (by omega) (by simp;omega) ?_);intro v' w1 hown1 hg1 hob1)
   obtain ⟨A1,c1,rfl⟩:=owns_slice hown1
   have HO1:=Lh hown1
   have HG1:=Lh hg1
   clear hown1 hg1 hob1
   go_wp2
   go_roundw
   case rel =>
    refine ⟨k + 1,by omega,by go_num,by rw [HQ.out,Int.pow_succ,← Int.ediv_ediv_of_nonneg (Int.le_of_lt (Int.pow_pos (by omega)))],⟨A1,c1,by rw [Nat.add_comm]⟩,?_,?_⟩
    ·have:=HO1.out
     rw [Nat.add_comm 1 k] at this
     rw [digs_cons,← HQ.out,Nat.add_comm 1 k]
     exact this
    ·exact (HBL.out.alloc hsz _).grown HG1.out (by simp;omega) (fun g e=>by have e:some wr.heap.size=some g:=e;injection e with e;omega)
   case measure=>simp [intOf];omega
  ·obtain rfl:k=n:=by omega
   obtain ⟨q,hqe⟩:∃ q,q=v / 256 ^ k:=⟨_,rfl⟩
   rw [← hqe]
   have HQ:=Lh hqe
   have HO:=Lh hown
   have HBL:=Lh hbel
   clear hqe hown hbel
   go_wp2
   go_ret2
   exact ⟨A,c,by rw [← HQ.out];rfl,HO.out,HBL.out⟩
theorem number_any (A:Option Addr) (n c:Nat) (zs:List Int) (w:World) (B:Nat) (h:Seq w B A (ints .u8 zs)) (hz:zs.length=n) (hn:n≤8) (hb:∀ z ∈ zs,isByte z) :
  Calls Tryz.prog 105 #[.slice A n c] w fun e w'=>e=.returned (.int .u64 (val zs))∧w=w':=by
 subst hz
 go_enter Tryz.func105,Tryz.ntmps105
 go_wp2
 go_loop [3,4] (fun v i=>∃ k:Nat,k≤zs.length∧i=.int .i64 k∧v=.int .u64 (val (zs.take k))) (fun _ i=>zs.length - (intOf i).toNat)
 case atStart=>exact ⟨0,Nat.zero_le _,rfl,rfl⟩
 case round =>
  obtain ⟨k,hk,rfl,rfl⟩:=hrel
  by_cases hkn:k < zs.length
  ·obtain ⟨b,o,rfl,hlt,hc⟩:=h.int hkn
   have hv:=val_bounds (zs.take k) fun z hz=>hb z (List.mem_of_mem_take hz)
   have hp:=pow_le (zs.take k).length 7 (by simp;omega)
   have h7:(256:Int) ^ 7=72057594037927936:=by decide
   rw [h7] at hp
   have hzb:=hb _ (List.getElem_mem hkn)
   obtain ⟨z,hz⟩:∃ z,z=zs.getD k 0:=⟨_,rfl⟩
   have hzz:zs[k]=z:=by rw [hz];simp [hkn]
   obtain ⟨m,hm⟩:∃ m,m=val (zs.take k):=⟨_,rfl⟩
   have hs:val (zs.take (k + 1))=m * 256 + z:=by rw [← List.take_append_getElem hkn,val_snoc,hzz,← hm]
   rw [hzz] at hzb
   rw [← hm] at hv
   have hm0:=hv.1
   have hm1:m < 72057594037927936:=by omega
   have hz0:=hzb.1
   have hz1:=hzb.2
   rw [← hz] at hc
   rw [← hm]
   have HS:=Lh hs
   clear hz hzz hm hs hzb hv hp h7 h hb
   go_wp2
   go_round
   case rel=>exact ⟨k + 1,by omega,by go_num,by rw [HS.out];go_num⟩
   case measure=>simp [intOf];omega
  ·obtain rfl:k=zs.length:=by omega
   go_wp2
   go_ret
   exact ⟨by simp,rfl⟩
def RowBytes (w:World) (zs:List Int) (e:Ending) (w':World):Prop :=
 ∃ A c,e=.returned (.slice A zs.length c)∧w'.ownsRow w.heap.size 5 1 (.slice A zs.length c) zs.length (ints .u8 zs)∧Below w.heap.size w w'
theorem getD_word {l:List Int} (hw:∀ z ∈ l,isWord z) (k:Nat):isWord (l.getD k 0):=by
 rcases Nat.lt_or_ge k l.length with h | h
 ·have e:l.getD k 0=l[k]:=by simp [h]
  rw [e];exact hw _ (List.getElem_mem h)
 ·have e:l.getD k 0=0:=by simp [h]
  rw [e];exact ⟨by omega,by omega⟩
theorem row_any (A S:Option Addr) (n c cs:Nat) (l s:List Int) (w:World) (h:Seq w w.heap.size S (ints .i64 s)) (hok:okB s=true) (hl:Seq w w.heap.size A (ints .u64 l)) (hln:l.length=n) (hnm:n=s.length) (hw:∀ z ∈ l,isWord z) :
  Calls Tryz.prog 143 #[.slice A n c,.slice S n cs] w (RowBytes w (rowTo l s n)):=by
 obtain ⟨i0,hi0,hz0,hz1,hz2⟩:=info_parts byte_info
 have hoo:okTo s s.length=true:=by simp [okB] at hok;exact hok.2
 have hle:=atTo_le hoo (Nat.le_refl _)
 have h16:s.length≤16:=by simp [okB] at hok;exact hok.1
 rw [← hnm] at hoo
 have HOO:=Lh hoo
 have HLN:=Lh hln
 have HNM:=Lh hnm
 have HW:=Lh hw
 have h16:n≤16:=by omega
 clear hoo hln hw hle hnm hok
 go_enter Tryz.func143,Tryz.ntmps143
 go_wp2
 go_loopw [5,6] (fun out i wr=>∃ k:Nat,k≤n∧i=.int .i64 k∧(∃ A c,out=.slice A (atTo s k) c)∧wr.ownsRow w.heap.size 5 1 out (atTo s k) (ints .u8 (rowTo l s k))∧Below w.heap.size w wr) (fun _ i _=>n - (intOf i).toNat)
 case atStart=>exact ⟨0,Nat.zero_le _,rfl,⟨_,_,rfl⟩,World.ownsRow_nil _ _ _ _,Below.refl _ _⟩
 case round =>
  obtain ⟨k,hk,rfl,⟨A',c',rfl⟩,hown,hbel⟩:=hrel
  by_cases hkn:k < n
  ·obtain ⟨ba,oa,rfl,hba,hac⟩:=(hl.below hbel).int (j:=k) (by have:=HLN.out;omega)
   obtain ⟨bs,os,rfl,hbs,hsc⟩:=(h.below hbel).int (j:=k) (by have:=HNM.out;omega)
   have hz:=okTo_sz HOO.out hkn
   have hm:=atTo_le HOO.out (show k + 1≤n by omega)
   have hat:atTo s (k + 1)=atTo s k + szOf s k:=rfl
   have hrow:rowTo l s (k + 1)=rowTo l s k ++ digs (szOf s k) (l.getD k 0):=rfl
   have hvw:=getD_word HW.out k
   obtain ⟨v,hv⟩:∃ v,v=l.getD k 0:=⟨_,rfl⟩
   rw [← hv] at hac hrow hvw
   rw [← hz.2.2] at hsc
   obtain ⟨z,hzz⟩:∃ z,z=szOf s k:=⟨_,rfl⟩
   rw [← hzz] at hsc hat hrow hz
   obtain ⟨a,ha⟩:∃ a,a=atTo s k:=⟨_,rfl⟩
   rw [← ha] at hown hat ⊢
   rw [hat] at hm
   have hd:=digits_any z v wr.drew (by omega) hvw.1 hvw.2
   have HD:=Lh hd
   have HROW:=Lh hrow
   have HAT:=Lh hat
   have HO:=Lh hown
   have HBL:=Lh hbel
   have HA:=Lh ha
   have hz8:=hz.2.1
   clear hv hrow hzz ha hat hown hbel hvw hz hd h hl
   go_wp2
   go_region_with (go_at_call 173;refine HD.out.mono ?_;rintro e w2 ⟨A2,c2,rfl,hown2,hbel2⟩)
   all_goals
    have hsz:=HBL.out.size
    have hsz2:=hbel2.size
    have hs2:=Lh (Seq.own hown2)
    have ho2:=Lh (owns_below (w:=wr.drew) HO.out hbel2)
    have HBL2:=Lh (Below.trans (Below.drew HBL.out) (hbel2.mono hsz))
    have hszw:wr.drew.heap.size≤w2.heap.size:=hsz2
    have hszw2:wr.heap.size≤w2.heap.size:=hsz2
    have hal:=rowTo_length l s k
    have HAL:=Lh hal
    clear hown2 hbel2 hszw hsz2 hal
    go_wp2_with (at_builtin;go_must (refine wpList_app _ rfl (.tmp 27) (.tmp 28) _ rfl w.heap.size 5 i0 _ 1 Tryz.underlying42 hi0 hz0 hz1 hz2 rfl _ a _ rfl ho2.out w2.heap.size A2 z c2 (ints .u8 (digs z v)) rfl (by rw [ints_length,digs_length]) hs2.out (ints_one _ _) (by simp only [maxLen];omega) (by omega) (by omega) ?_);intro v' w3 hown3 hg3 hob3)
    obtain ⟨A3,c3,rfl⟩:=owns_slice hown3
    have HO3:=Lh hown3
    have HG3:=Lh hg3
    clear hown3 hg3 hob3
    go_wp2
    go_roundw
    case rel =>
     refine ⟨k + 1,by omega,by go_num,⟨A3,c3,by rw [HAT.out]⟩,?_,?_⟩
     ·rw [HROW.out,ints_app,HAT.out];exact HO3.out
     ·exact HBL2.out.grown HG3.out (by omega) (fun g e=>(ho2.out.lt g e).1)
    case measure=>simp [intOf];omega
  ·obtain rfl:k=n:=by omega
   have HO:=Lh hown
   have HBL:=Lh hbel
   clear hown hbel h hl
   go_wp2
   go_ret
   have hl:=rowTo_length l s k
   exact ⟨A',c',by rw [hl];rfl,by rw [hl];exact HO.out,HBL.out⟩
end Go.Proofs.YtifgcfepbenpjaaGreat
