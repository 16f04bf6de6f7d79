/- Texts of layers 1 to 12, joined. -/
import Derived.Test.YtifgcfepbenpjaaGreatNb29
import Derived.KernelRfl
import Derived.Deep.RegionHeld3
import Derived.Laws.Tables
import Derived.Deep.CutBlock
import Derived.Deep.CutRange
import Derived.Laws.BitsAllLaws
set_option maxRecDepth 100000
set_option maxHeartbeats 12800000
set_option linter.unusedVariables false
namespace Go.Proofs.YtifgcfepbenpjaaGreat
open Go.RowKit
theorem OwnTxt.sub {w:World} {base g o n c lo hi:Nat} {zs:List Int} (h:OwnTxt w base (some ⟨g,o,none⟩) n c zs) (h1:lo≤hi) (h2:hi≤n):OwnTxt w base (some ⟨g,o + lo,none⟩) (hi - lo) (c - lo) ((zs.drop lo).take (hi - lo)):=by
 obtain ⟨a1,a2,a3,a4⟩:=h
 refine ⟨by rw [List.length_take,List.length_drop];omega,by omega,by omega,?_⟩
 rcases a4 with a4 | ⟨g',o',cs,e,hb,hg,hc⟩
 ·exact .inl (by omega)
 ·injection e with e
  injection e with e1 e2 _
  subst e1
  subst e2
  refine .inr ⟨g,o + lo,cs,rfl,hb,hg,fun j hj=>?_⟩
  have e3:((zs.drop lo).take (hi - lo)).getD j 0=zs.getD (lo + j) 0:=by
   rw [gtD,List.getElem?_take,if_pos hj,List.getElem?_drop,gtD]
  rw [e3,Nat.add_assoc]
  exact hc (lo + j) (by omega)
def ScanOut (w:World) (L:List Txt) (E:Int) (e:Ending) (w':World):Prop :=
 ∃ A c,e=.returned (.tuple #[.slice A L.length c,.int .i64 E])∧OwnTxs w' w.heap.size A L.length c L∧Below w.heap.size w w'
section
variable {w w':World} {G:Nat} {P T A M W Q:Int} {D D':Option Addr} {n c n' c':Nat} {S:List Sec} {C:List Pnd}
end
def TxtOut (w:World) (L:Txt) (E:Int) (e:Ending) (w':World):Prop :=
 ∃ A c,e=.returned (.tuple #[.slice A L.length c,.int .i64 E])∧OwnTxt w' w.heap.size A L.length c L∧Below w.heap.size w w'
def PndOut (w:World) (x:Int) (L:Txt) (E:Int) (e:Ending) (w':World):Prop :=
 ∃ A c,e=.returned (.tuple #[.agg #[.int .i64 x,.slice A L.length c],.int .i64 E])∧OwnTxt w' w.heap.size A L.length c L∧Below w.heap.size w w'
section
variable {w w':World} {G:Nat} {P T A M W Q:Int} {D D':Option Addr} {n c n' c':Nat} {S:List Sec} {C:List Pnd}
end
theorem OwnTxt.few {w:World} {base n c c':Nat} {A:Option Addr} {zs:List Int} (h:OwnTxt w base A n c zs) (h1:n≤c') (h2:c'≤c):OwnTxt w base A n c' zs:=⟨h.1,h1,Nat.le_trans h2 h.2.2.1,h.2.2.2⟩
theorem jtext_any (g n:Int) (A:Option Addr) (k c:Nat) (b:Txt) (w:World) (hg:isG g) (hb:Arg w .u8 A k c b) :
  Calls Tryz.prog 154 #[.int .u64 g,.int .i64 n,.slice A k c] w (TxtOut w (jtB g n b) (jtE n b)):=by
 unfold TxtOut
 have hlen:=hb.len
 by_cases h0:jtE n b=0
 ·have hB:jtB g n b=jT g n b:=if_pos h0
  have hr:(1≤b.length∧b.length≤20)∧0≤n∧n≤255:=by
   unfold jtE at h0
   split at h0
   ·split at h0
    ·exact ⟨by assumption,by assumption⟩
    ·cases h0
   ·cases h0
  rw [hlen] at hr
  rw [h0,hB,jT_length g n (by omega)]
  have NO:=Lh (noteof_yes g n A k c w hr.1.1 hr.1.2 hr.2)
  have MN:=method_note g n A k c
  have TX:=Lh (ntext_any g n hg hr.2 A k c b w hb hr.1.2)
  clear h0 hB hr hlen hb
  go_enter Tryz.func154,Tryz.ntmps154
  go_wp2_with fail
  refine NO.out.mono ?_
  rintro e w1 ⟨rfl,rfl⟩
  clear NO
  go_wp2_with fail
  refine TX.out.mono ?_
  rintro e w2 ⟨G,rfl,hown,hb⟩
  have OW:=Lh (OwnTxt.of hown)
  have B:=Lh hb
  clear hown hb TX MN
  go_wp2
  go_ret2
  exact ⟨_,_,rfl,OW.out,B.out⟩
 ·have hB:jtB g n b=[]:=if_neg h0
  rw [hB]
  have NO:=Lh (noteof_no g n A k c b w hlen h0)
  have MN:=method_fault (jtE n b)
  obtain ⟨E,hE⟩:∃ E,E=jtE n b:=⟨_,rfl⟩
  rw [← hE] at NO MN ⊢
  clear h0 hB hlen hb hE
  go_enter Tryz.func154,Tryz.ntmps154
  go_wp2_with fail
  refine NO.out.mono ?_
  rintro e w1 ⟨rfl,rfl⟩
  clear NO
  go_wp2_with fail
  refine (ftext_any E _).mono ?_
  rintro e w2 ⟨rfl,rfl⟩
  go_wp2
  go_ret2
  exact ⟨none,0,rfl,OwnTxt.nil _ _,Below.refl _ _⟩
def noAt (o:Option Txt):Prop:=∀ t,o=some t→¬ rdOk t
theorem readat_no (D:Option Addr) (n c:Nat) (D':Option Addr) (n' c':Nat) (S:List Sec) (C:List Pnd) (a:Int) (w:World) (hq:Dsk w D n c D' n' c' S C) (hs:SmallD S C) (hno:noAt (optAt S C a)) :
  Calls Tryz.prog 127 #[diskV D n c D' n' c',.int .i64 a] w fun e w'=>(∃ E,e=.returned (faultV E))∧Below w.heap.size w w':=by
 have X0:=Lh (DBox.new hq)
 have hb0:Below w.heap.size w (w.alloc (.cells #[.slice D n c,.slice D' n' c'] 25)):=(Below.refl _ _).alloc (Nat.le_refl _) _
 have RD:=Lh (dsk_does.read D n c D' n' c' S C a _ (hq.below hb0) hs)
 have B0:=Lh hb0
 by_cases h0:rdE S C a=0
 ·have ho:optAt S C a=some (rdB S C a):=if_pos h0
  have hgood:=rd_good h0 hq.secs.byte hq.pnds.byte
  have hn:=Lh (hno _ ho)
  obtain ⟨t,ht⟩:∃ t,t=rdB S C a:=⟨_,rfl⟩
  rw [← ht] at RD hgood hn
  rw [h0] at RD
  obtain ⟨hl,hby⟩:=hgood
  have HBY:=Lh hby
  have HL:=Lh hl
  clear ho h0 hno hq hs hb0 ht hl hby
  go_enter Tryz.func127,Tryz.ntmps127
  go_wp2_with fail
  refine RD.out.mono ?_
  rintro e w1 ⟨A1,c1,rfl,hown,hb1⟩
  rw [HL.out] at hown
  obtain ⟨g1,rfl,_⟩:=owns_int_at (j:=0) hown (by decide)
  have B1:=Lh (B0.out.trans (hb1.mono B0.out.size))
  have RO:=Lh (readof_any g1 0 c1 t w1 (Arg.own hown) HBY.out)
  clear hown hb1 RD X0 B0
  rw [HL.out]
  go_wp2_with fail
  refine RO.out.mono ?_
  rintro e w2 ⟨⟨hy,_⟩ | ⟨_,rfl⟩,hb2⟩
  ·exact absurd hy hn.out
  ·have B2:=Lh (B1.out.trans (hb2.mono B1.out.size))
   clear hb2
   go_wp2
   go_ret
   exact ⟨⟨_,rfl⟩,B2.out⟩
 ·have hb':rdB S C a=[]:=if_neg h0
  rw [hb'] at RD
  obtain ⟨E,hE⟩:∃ E,E=rdE S C a:=⟨_,rfl⟩
  rw [← hE] at RD h0
  have hne:(E != 0)=true:=by rw [bne_iff_ne];exact h0
  clear hno hq hs hb0 hb' hE h0
  go_enter Tryz.func127,Tryz.ntmps127
  go_wp2_with fail
  refine RD.out.mono ?_
  rintro e w1 ⟨A1,c1,rfl,hown,hb1⟩
  have B1:=Lh (B0.out.trans (hb1.mono B0.out.size))
  clear hown hb1 RD X0 B0
  go_wp2
  go_ret
  exact ⟨⟨_,rfl⟩,B1.out⟩
theorem readat_yes (D:Option Addr) (n c:Nat) (D':Option Addr) (n' c':Nat) (S:List Sec) (C:List Pnd) (a:Int) (t:Txt) (w:World) (hq:Dsk w D n c D' n' c' S C) (hs:SmallD S C) (ho:optAt S C a=some t) (hok:rdOk t) :
  Calls Tryz.prog 127 #[diskV D n c D' n' c',.int .i64 a] w fun e w'=>(∃ A,e=.returned (noteV (val (t.take 8)) (t.getD 9 0) A (rdM t) (rdM t))∧OwnTxt w' w.heap.size A (rdM t) (rdM t) (rdTx t))∧Below w.heap.size w w':=by
 have X0:=Lh (DBox.new hq)
 have hb0:Below w.heap.size w (w.alloc (.cells #[.slice D n c,.slice D' n' c'] 25)):=(Below.refl _ _).alloc (Nat.le_refl _) _
 have RD:=Lh (dsk_does.read D n c D' n' c' S C a _ (hq.below hb0) hs)
 have B0:=Lh hb0
 have h0:rdE S C a=0:=by
  unfold optAt at ho
  split at ho
  ·assumption
  ·cases ho
 have hgood:=rd_good h0 hq.secs.byte hq.pnds.byte
 have ht:rdB S C a=t:=by
  unfold optAt at ho
  rw [if_pos h0] at ho
  injection ho
 rw [ht] at RD hgood
 rw [h0] at RD
 obtain ⟨hl,hby⟩:=hgood
 have HBY:=Lh hby
 have HL:=Lh hl
 have HOK:=Lh hok
 obtain ⟨gv,hgv⟩:∃ x,x=val (t.take 8):=⟨_,rfl⟩
 obtain ⟨nv,hnv⟩:∃ x,x=t.getD 9 0:=⟨_,rfl⟩
 obtain ⟨m,hm⟩:∃ m,m=rdM t:=⟨_,rfl⟩
 have HM:=Lh (⟨by have:=rdM_le t;omega,by unfold rdTx;rw [← hm]⟩:m≤20∧rdTx t=(t.drop 12).take m)
 have RO:=Lh (fun b o c wx (h:Arg wx .u8 (some ⟨b,o,none⟩) 32 c t)=>readof_any b o c t wx h HBY.out)
 rw [← hgv,← hnv,← hm] at RO ⊢
 clear ho h0 hq hs hb0 ht hl hby hok hgv hnv hm
 go_enter Tryz.func127,Tryz.ntmps127
 go_wp2_with fail
 refine RD.out.mono ?_
 rintro e w1 ⟨A1,c1,rfl,hown,hb1⟩
 rw [HL.out] at hown
 obtain ⟨g1,rfl,_⟩:=owns_int_at (j:=0) hown (by decide)
 have B1:=Lh (B0.out.trans (hb1.mono B0.out.size))
 have hsz:=B0.out.size
 have RO:=Lh (RO.out g1 0 c1 w1 (Arg.own hown))
 have OW:=Lh (show OwnTxt w1 w.heap.size (some ⟨g1,0 + 12,none⟩) m m (rdTx t) by
  have h:=((OwnTxt.of hown).lower hsz).sub (lo:=12) (hi:=12 + m) (by omega) (by have:=HM.out.1;omega)
  rw [show 12 + m - 12=m by omega] at h
  rw [HM.out.2]
  exact h.few (Nat.le_refl _) (by have:=HM.out.1;have:=(Arg.own hown).cap;omega))
 clear hown hb1 RD X0 B0 hsz
 rw [HL.out]
 go_wp2_with fail
 refine RO.out.mono ?_
 rintro e w2 ⟨⟨_,rfl⟩ | ⟨hno,_⟩,hb2⟩
 ·have B2:=Lh (B1.out.trans (hb2.mono B1.out.size))
  have OW2:=Lh (OW.out.below hb2)
  clear hb2 RO OW
  go_wp2
  go_ret
  exact ⟨⟨_,rfl,OW2.out⟩,B2.out⟩
 ·exact absurd HOK.out hno
def ShortT (l:List Txt) (k:Nat):Prop:=∀ y,y < k→(l.getD y []).length≤100
theorem wpList_store_row {P:Program} {w:World} {ops:Array Oper} {rest:List Oper} {o:Oper} {a:Act} {Q:Exit→Act→World→Prop} (hw:Region.wanted o (yielded ops a.tmps)=true) (ty:TypeId) (x y:Operand) (ho:o.op=.store ty x y)
  (g:Nat) (cells:Array Value) (hx:a.eval x=.pointer (some ⟨g,0,none⟩)) (hy:a.eval y=.agg cells) (t:TypeId) (old:Array Value) (hg:w.heap[g]?=some (.cells old t (0,0))) (hi:(P.info? ty).map (·.size)=some cells.size)
  (hold:old.size=cells.size) (h1:cells.all (·.oneCell')=true) (h:wpList P ops Q rest (a.put o.dst undef) (w.setRow g cells)):wpList P ops Q (o :: rest) a w:=by
 refine wpList_want hw fun K hK=>?_
 exact wp_store_row ty x y ho g cells hx hy t old hg hi hold h1 (hK _ _ h)
theorem pequal11_any (A:Option Addr) (n c:Nat) (x:Txt) (A':Option Addr) (n' c':Nat) (y:Txt) (w:World) (hx:Arg w .u8 A n c x) (hy:Arg w .u8 A' n' c' y) (bx:∀ z ∈ x,isByte z) (by_:∀ z ∈ y,isByte z) :
  Calls Tryz.prog 148 #[.slice A n c,.slice A' n' c'] w fun e w'=>e=.returned (.bool (decide (x=y)))∧w'=w:=by
 have hst1:=run_str (P:=Tryz.prog) w 42 9 5 Tryz.underlying42 Tryz.underlying5 Tryz.underlying9 (c:=c) hx.seq hx.len
 have hst2:=run_str (P:=Tryz.prog) w 42 9 5 Tryz.underlying42 Tryz.underlying5 Tryz.underlying9 (c:=c') hy.seq hy.len
 have hse:=strs_eq bx by_
 obtain ⟨R,hR⟩:∃ R,R=decide (x=y):=⟨_,rfl⟩
 rw [← hR] at hse ⊢
 clear hR hx hy bx by_
 go_enter Tryz.func148,Tryz.ntmps148
 go_wp2
 go_ret
 exact ⟨rfl,rfl⟩
theorem val_one11 {t:Txt} {k:Nat} (hk:k < t.length):val ((t.drop k).take 1)=t.getD k 0:=by
 rw [gtD,geE hk,List.drop_eq_getElem_cons hk,List.take_succ_cons,List.take_zero]
 show 0 * 256 + t[k]=t[k]
 rw [Int.zero_mul,Int.zero_add]
theorem byte_getD11 {t:Txt} (hb:∀ z ∈ t,isByte z) (k:Nat):isByte (t.getD k 0):=by
 rcases Nat.lt_or_ge k t.length with h | h
 ·rw [gtD,geE h]
  exact hb _ (List.getElem_mem h)
 ·rw [gtD,List.getElem?_eq_none h]
  exact ⟨by decide,by decide⟩
theorem nums8_eq {t:Txt} (ht:t.length=14):numsTo t sz8R 8=[t.getD 0 0,t.getD 1 0,val ((t.drop 2).take 4),val ((t.drop 6).take 4),t.getD 10 0,t.getD 11 0,t.getD 12 0,t.getD 13 0]:=by
 have h:numsTo t sz8R 8=((((((([] ++ [val ((t.drop 0).take 1)]) ++ [val ((t.drop 1).take 1)]) ++ [val ((t.drop 2).take 4)]) ++ [val ((t.drop 6).take 4)]) ++ [val ((t.drop 10).take 1)]) ++ [val ((t.drop 11).take 1)]) ++ [val ((t.drop 12).take 1)]) ++ [val ((t.drop 13).take 1)]:=rfl
 rw [h,val_one11 (by omega),val_one11 (by omega),val_one11 (by omega),val_one11 (by omega),val_one11 (by omega),val_one11 (by omega)]
 rfl
theorem nums2_eq {t:Txt} (ht:t.length=2):numsTo t [1,1] 2=[t.getD 0 0,t.getD 1 0]:=by
 have h:numsTo t [1,1] 2=([] ++ [val ((t.drop 0).take 1)]) ++ [val ((t.drop 1).take 1)]:=rfl
 rw [h,val_one11 (by omega),val_one11 (by omega)]
 rfl
def bitR (t:Txt):Rc:=⟨t.getD 1 0,val ((t.drop 2).take 4),val ((t.drop 6).take 4),t.getD 10 0,t.getD 11 0,t.getD 12 0,decide (t.getD 13 0 / 2 % 2=1),decide (t.getD 13 0 % 2=1)⟩
theorem bit_is {t:Txt} (ht:t.length=14) (hb:∀ z ∈ t,isByte z):isR (bitR t):=raw_is ht hb
theorem bit_raw {t:Txt} (hb:∀ z ∈ t,isByte z) (h:t.getD 13 0≤3):bitR t=rawR t:=by
 have:=byte_getD11 hb 13
 unfold isByte at this
 unfold bitR rawR
 congr 1
 rw [decide_eq_decide]
 omega
theorem rec_raw {t:Txt} (hb:∀ z ∈ t,isByte z) (h:isN t):recT (rawR t)=t:=by
 obtain ⟨h1,h2,h3,h4⟩:=h
 have hy:=byte_getD11 hb 13
 unfold isByte at hy
 have hf:flagR (rawR t)=t.getD 13 0:=by
  show (if decide (2≤t.getD 13 0)=true then (2:Int) else 0) + (if decide (t.getD 13 0 % 2=1)=true then 1 else 0)=_
  by_cases k1:2≤t.getD 13 0 <;> by_cases k2:t.getD 13 0 % 2=1 <;> simp only [k1,k2,decide_true,decide_false,if_true,Bool.false_eq_true,if_false] <;> omega
 have hn:numsR (rawR t)=numsTo t sz8R 8:=by
  rw [nums8_eq h1]
  show [1,t.getD 1 0,_,_,_,_,_,flagR (rawR t)]=_
  rw [hf,h2]
  rfl
 show rowTo (numsR (rawR t)) sz8R 8=t
 rw [hn]
 exact write_read t sz8R hb (by rw [h1];decide)
theorem bit_iff {t:Txt} (ht:t.length=14) (hb:∀ z ∈ t,isByte z):ntB (bitR t)=t↔isN t:=by
 constructor
 ·intro h
  unfold ntB at h
  split at h
  ·rename_i hm
   have k:=raw_recT (bit_is ht hb) hm
   rw [h] at k
   exact k.2
  ·rw [← h] at ht
   cases ht
 ·intro h
  rw [bit_raw hb h.2.2.1,show ntB (rawR t)=recT (rawR t) from if_pos h.2.2.2]
  exact rec_raw hb h
theorem go_iff {t:Txt} (ht:t.length=2) (hb:∀ z ∈ t,isByte z):goB (t.getD 1 0)=t↔isGo t:=by
 have hy:=byte_getD11 hb 1
 unfold isByte at hy
 match t,ht with
 | [x,y],_ =>
  have hy:0≤y∧y < 256:=hy
  show goB y=[x,y]↔(2=2∧x=2∧y < 3)
  unfold goB goE goneT
  by_cases h:0≤y∧y < 3
  ·rw [if_pos h,if_pos rfl]
   constructor
   ·intro e
    injection e with e
    exact ⟨rfl,e.symm,h.2⟩
   ·rintro ⟨_,rfl,_⟩
    rfl
  ·rw [if_neg h,if_neg (by decide)]
   constructor
   ·intro e
    cases e
   ·rintro ⟨_,_,k⟩
    exact absurd ⟨hy.1,k⟩ h
theorem goB_byte (k:Int):∀ z ∈ goB k,isByte z:=by
 intro z hz
 unfold goB at hz
 by_cases h:0≤k∧k < 3
 ·rw [show goE k=0 from if_pos h,if_pos rfl] at hz
  unfold goneT at hz
  simp only [List.mem_cons,List.not_mem_nil,or_false] at hz
  unfold isByte
  rcases hz with rfl | rfl <;> omega
 ·rw [show goE k=2 from if_neg h,if_neg (by decide)] at hz
  cases hz
theorem ntB_byte (r:Rc):∀ z ∈ ntB r,isByte z:=by
 intro z hz
 unfold ntB at hz
 split at hz
 ·exact recT_byte r z hz
 ·cases hz
theorem and_two {x:Int} (h0:0≤x) (h:x < 256):(bits .and .u64 x 2 != 0)=decide (x / 2 % 2=1):=by
 obtain ⟨n,rfl⟩:∃ n:Nat,x=n:=⟨x.toNat,by omega⟩
 have H:∀ y:Fin 256,(bits .and .u64 ((y:Nat):Int) 2 != 0)=decide (((y:Nat):Int) / 2 % 2=1):=by decide +kernel
 exact H ⟨n,by omega⟩
theorem and_one {x:Int} (h0:0≤x) (h:x < 256):(bits .and .u64 x 1 != 0)=decide (x % 2=1):=by
 obtain ⟨n,rfl⟩:∃ n:Nat,x=n:=⟨x.toNat,by omega⟩
 have H:∀ y:Fin 256,(bits .and .u64 ((y:Nat):Int) 1 != 0)=decide (((y:Nat):Int) % 2=1):=by decide +kernel
 exact H ⟨n,by omega⟩
theorem eight_at {w:World} {B:Nat} {A:Option Addr} {c:Nat} {x0 x1 x2 x3 x4 x5 x6 x7:Int} (h:w.ownsRow B 27 1 (.slice A 8 c) 8 (ints .u64 [x0,x1,x2,x3,x4,x5,x6,x7])) :
  ∃ b,A=some ⟨b,0,none⟩∧w.cell? ⟨b,0,none⟩=some (.int .u64 x0)∧w.cell? ⟨b,1,none⟩=some (.int .u64 x1)∧w.cell? ⟨b,2,none⟩=some (.int .u64 x2)∧w.cell? ⟨b,3,none⟩=some (.int .u64 x3)∧w.cell? ⟨b,4,none⟩=some (.int .u64 x4)∧w.cell? ⟨b,5,none⟩=some (.int .u64 x5)∧w.cell? ⟨b,6,none⟩=some (.int .u64 x6)∧w.cell? ⟨b,7,none⟩=some (.int .u64 x7):=by
 obtain ⟨b,o,rfl,hlt,hc⟩:=(Seq.own h).at_ (by rw [ints_length];simp)
 have ho:o=0:=by
  rcases h.2 with ⟨e,h0⟩ | ⟨g,cap,cur,e,_⟩
  ·cases e
  ·injection e with e;injection e with e;injection e
 subst ho
 refine ⟨b,rfl,?_⟩
 have H:=fun j v hv=>(Nat.zero_add j) ▸ hc j v hv
 exact ⟨H 0 _ rfl,H 1 _ rfl,H 2 _ rfl,H 3 _ rfl,H 4 _ rfl,H 5 _ rfl,H 6 _ rfl,H 7 _ rfl⟩
theorem two_at {w:World} {B:Nat} {A:Option Addr} {c:Nat} {x0 x1:Int} (h:w.ownsRow B 27 1 (.slice A 2 c) 2 (ints .u64 [x0,x1])):∃ b,A=some ⟨b,0,none⟩∧w.cell? ⟨b,0,none⟩=some (.int .u64 x0)∧w.cell? ⟨b,1,none⟩=some (.int .u64 x1):=by
 obtain ⟨b,o,rfl,hlt,hc⟩:=(Seq.own h).at_ (by rw [ints_length];simp)
 have ho:o=0:=by
  rcases h.2 with ⟨e,h0⟩ | ⟨g,cap,cur,e,_⟩
  ·cases e
  ·injection e with e;injection e with e;injection e
 subst ho
 have H:=fun j v hv=>(Nat.zero_add j) ▸ hc j v hv
 exact ⟨b,rfl,H 0 _ rfl,H 1 _ rfl⟩
def GoOut (w:World) (t:Txt) (e:Ending) (w':World):Prop:=((isGo t∧e=.returned (.tuple #[.int .i64 (t.getD 1 0),.bool true]))∨(¬ isGo t∧e=.returned (.tuple #[.int .i64 0,.bool false])))∧Below w.heap.size w w'
theorem pgonein_any (A:Option Addr) (n c:Nat) (t:Txt) (w:World) (ht:Arg w .u8 A n c t) (hby:∀ z ∈ t,isByte z) (hn:n≤1000):Calls Tryz.prog 150 #[.slice A n c] w (GoOut w t):=by
 have hlen:=ht.len
 have HA:=Lh ht
 unfold GoOut
 by_cases h2:n=2
 ·subst h2
  have hnm:=nums2_eq hlen
  have hy:=byte_getD11 hby 1
  have hiff:=go_iff hlen hby
  have EQ:=Lh (fun (A':Option Addr) (n' c':Nat) wx (h1:Arg wx .u8 A' n' c' (goB (t.getD 1 0))) (h2:Arg wx .u8 A 2 c t)=>pequal11_any A' n' c' (goB (t.getD 1 0)) A 2 c t wx h1 h2 (goB_byte _) hby)
  have hde:decide (goB (t.getD 1 0)=t)=decide (isGo t):=decide_eq_decide.2 hiff
  rw [hde] at EQ
  have GP:=Lh (fun wx=>pgone11_any (t.getD 1 0) wx)
  unfold RowOut at GP
  obtain ⟨b1,hb1⟩:∃ b,b=goB (t.getD 1 0):=⟨_,rfl⟩
  obtain ⟨E1,hE1⟩:∃ b,b=goE (t.getD 1 0):=⟨_,rfl⟩
  obtain ⟨x0,hx0⟩:∃ x,x=t.getD 0 0:=⟨_,rfl⟩
  obtain ⟨x1,hx1⟩:∃ x,x=t.getD 1 0:=⟨_,rfl⟩
  rw [← hb1,← hE1] at GP
  rw [← hb1] at EQ
  rw [← hx0,← hx1] at hnm
  rw [← hx1] at hy GP ⊢
  have e1:IntKind.i64.wrap x1=x1:=by unfold isByte at hy;rw [IntKind.wrap_i64];omega
  have HNM:=Lh hnm
  have HB:=Lh hby
  have HL:=Lh hlen
  clear hiff hde hb1 hE1 hx0 hx1 hnm hby hlen ht hn hy
  go_enter Tryz.func150,Tryz.ntmps150
  go_wp2_with fail
  refine (psizes2_any _).mono ?_
  rintro e w1 ⟨gS,rfl,hAS,hb⟩
  have B:=Lh hb
  have HAS:=Lh hAS
  have RT:=Lh (HA.out.below hb)
  clear hb hAS
  go_wp2_with fail
  refine (read_ok A (some ⟨gS,0,none⟩) 2 c 2 2 t [1,1] _ HAS.out.seq rfl (by decide) RT.out.seq HL.out rfl RT.out.cap RT.out.max HB.out).mono ?_
  intro e w2 hout
  obtain ⟨A2,c2,rfl,hown,hb⟩:=hout.len (zs':=[x0,x1]) (n:=2) HNM.out rfl
  have B:=Lh (B.out.trans (hb.mono B.out.size))
  have RT:=Lh (RT.out.below hb)
  obtain ⟨g,rfl,q0,q1⟩:=two_at hown
  clear hown hb hout
  go_wp2_with fail
  refine (GP.out _).mono ?_
  rintro e w3 ⟨A3,c3,rfl,hown,hb⟩
  have B:=Lh (B.out.trans (hb.mono B.out.size))
  have RT:=Lh (RT.out.below hb)
  have R3:=Lh (Arg.own hown)
  clear hown hb q0 q1
  go_wp2_with fail
  refine (EQ.out _ _ _ _ R3.out RT.out).mono ?_
  rintro e w4 ⟨rfl,rfl⟩
  by_cases hg:isGo t
  ·rw [decide_eq_true hg]
   have HG:=Lh hg
   clear hg
   go_wp2
   go_ret2
   exact ⟨.inl ⟨HG.out,rfl⟩,B.out⟩
  ·rw [decide_eq_false hg]
   have HG:=Lh hg
   clear hg
   go_wp2
   go_ret2
   exact ⟨.inr ⟨HG.out,rfl⟩,B.out⟩
 ·have HN:=Lh (show ¬ isGo t from fun k=>h2 (hlen.symm.trans k.1))
  clear ht hby hlen
  go_enter Tryz.func150,Tryz.ntmps150
  go_wp2_with fail
  refine (psizes2_any _).mono ?_
  rintro e w1 ⟨gS,rfl,hAS,hb⟩
  have B:=Lh hb
  have HAS:=Lh hAS
  clear hb hAS
  go_wp2_with fail
  refine (read_short A (some ⟨gS,0,none⟩) n c 2 2 [1,1] _ _ HAS.out.seq rfl (by decide) h2 hn).mono ?_
  rintro e w2 ⟨rfl,rfl⟩
  go_wp2
  go_ret2
  exact ⟨.inr ⟨HN.out,rfl⟩,B.out⟩
end Go.Proofs.YtifgcfepbenpjaaGreat
