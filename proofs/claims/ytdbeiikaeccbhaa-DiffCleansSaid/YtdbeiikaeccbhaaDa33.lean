/- Texts of the layers below, joined. -/
import Derived.Test.YtdbeiikaeccbhaaDa31
set_option maxRecDepth 100000
set_option maxHeartbeats 12800000
set_option linter.unusedVariables false
namespace Go.Proofs.Ytdbeiikaeccbhaa
open Go.RowKit Go.OpenShut Go.ChangeShapes Go.WideShapes Go.Deep Go.Joins
def ActTo (w w':World):Prop:=w.heap.size≤w'.heap.size∧∀ g,g < w.heap.size→(∀ cs,w.heap[g]?≠some (.cells cs 45 (0,0)))→(∀ cs,w.heap[g]?≠some (.cells cs 23 (0,0)))→w'.heap[g]?=w.heap[g]?
theorem ActTo.of {B:Nat} {w w':World} (h:Below B w w') (hB:w.heap.size≤B):ActTo w w':=⟨h.size,fun g hg _ _=>h.block g (Nat.lt_of_lt_of_le hg hB)⟩
theorem ActTo.trans {a b c:World} (h:ActTo a b) (k:ActTo b c):ActTo a c :=
 ⟨Nat.le_trans h.1 k.1,fun g hg h1 h2=>by
  have e:=h.2 g hg h1 h2
  exact (k.2 g (Nat.lt_of_lt_of_le hg h.1) (fun cs=>by rw [e];exact h1 cs) (fun cs=>by rw [e];exact h2 cs)).trans e⟩
section
variable {w w':World} {base g n c:Nat} {t:TypeId} {A:Option Addr} {cs:List Value}
theorem ActTo.block (h:ActTo w w') {cs:Array Value} {fz:Nat × Nat} (hb:w.heap[g]?=some (.cells cs t fz)) (h1:t≠45) (h2:t≠23):w'.heap[g]?=w.heap[g]? :=
 h.2 g (Array.getElem?_eq_some_iff.1 hb).1 (fun cs e=>by rw [hb] at e;simp at e;exact h1 e.2.1) (fun cs e=>by rw [hb] at e;simp at e;exact h2 e.2.1)
theorem ActTo.blk (h:ActTo w w') (hb:Blk w g t cs) (h1:t≠45) (h2:t≠23):Blk w' g t cs:=(h.block hb h1 h2).trans hb
theorem ActTo.owns (h:ActTo w w') {k:Nat} {xs:List Value} (ho:w.ownsRow base 5 1 (.slice A n c) k xs):w'.ownsRow base 5 1 (.slice A n c) k xs :=
 owns_keep ho fun g cs _ hc=>h.block hc (by decide) (by decide)
end
def CollB (w:World) (G B:Nat) (l:List Ac):Prop:=G < B∧∃ A n c,Blk w G 23 [.slice A n c]∧OwnActs w B A n c l
def CollOut (w:World) (G B:Nat) (l:List Ac) (w':World):Prop:=CollB w' G B l∧Below G w w'∧ActTo w w'
theorem CollB.lt {w:World} {G B:Nat} {l:List Ac} (h:CollB w G B l):G < w.heap.size:=by
 obtain ⟨_,A,n,c,hb,_⟩:=h
 exact hb.lt
theorem CollB.below {w w':World} {G B:Nat} {l:List Ac} (h:CollB w G B l) (hb:Below w.heap.size w w'):CollB w' G B l:=by
 obtain ⟨h0,A,n,c,h1,h2⟩:=h
 exact ⟨h0,A,n,c,h1.below hb h1.lt,h2.below hb⟩
theorem CollB.away {w:World} {G B:Nat} {l:List Ac} (h:CollB w G B l) {g:Nat} (h1:g≠G) (h2:g < B) (i:Nat) (u:Value):CollB (w.setCell ⟨g,i,none⟩ u) G B l:=by
 obtain ⟨h0,A,n,c,hb,ho⟩:=h
 exact ⟨h0,A,n,c,(Below.heap_setCell w _ _ G (fun e=>h1 e.symm)).trans hb,ho.away h2 i u⟩
theorem CollOut.trans {a b c:World} {G B:Nat} {l l':List Ac} (h:CollOut a G B l b) (k:CollOut b G B l' c):CollOut a G B l' c:=⟨k.1,h.2.1.trans k.2.1,h.2.2.trans k.2.2⟩
theorem CollOut.of {w w':World} {G B:Nat} {l:List Ac} (h:CollB w G B l) (hb:Below w.heap.size w w'):CollOut w G B l w':=⟨h.below hb,hb.mono (Nat.le_of_lt h.lt),ActTo.of hb (Nat.le_refl _)⟩
theorem coll_more {w w1:World} {G B:Nat} {A A':Option Addr} {n c c':Nat} {l:List Ac} {L:List Ax} {k x:Int} {Ai:Option Addr} {ni ci:Nat} {b:Txt} (hGB:G < B)
  (hb:Blk w G 23 [.slice A n c]) (hL:OwnAcs w B A n c L) (hl:l.length=n) (hby:∀ a ∈ l,∀ z ∈ a.2.2,isByte z)
  (hin:∀ i,i < n→(L.getD i zAx).1=(l.getD i (0,0,[])).1∧(L.getD i zAx).2.1=(l.getD i (0,0,[])).2.1∧OwnTxt w B (L.getD i zAx).2.2.1 (L.getD i zAx).2.2.2.1 (L.getD i zAx).2.2.2.2 (l.getD i (0,0,[])).2.2)
  (ht:OwnTxt w B Ai ni ci b) (hbb:∀ z ∈ b,isByte z) (h2:OwnAcs w1 B A' (n + 1) c' (L ++ [(k,x,Ai,ni,ci)])) (h3:Below B w w1) (h4:w.grownBy w1 (Value.slice A n c).ownBlock) :
  CollOut w G B (l ++ [(k,x,b)]) (w1.setCell ⟨G,0,none⟩ (.slice A' (n + 1) c')):=by
 have hbox:Blk w1 G 23 [.slice A n c]:=hb.below h3 hGB
 have ho:=OwnActs.snoc hL hl hby hin ht hbb h2 h4
 refine ⟨⟨hGB,A',n + 1,c',hbox.set 0 _,ho.away hGB 0 _⟩,(h3.mono (Nat.le_of_lt hGB)).setCell (p:=⟨G,0,none⟩) (Nat.le_refl G) _,?_⟩
 refine ⟨Nat.le_trans h4.size (by simp [World.setCell]),fun g hg h1 h2'=>?_⟩
 have hgG:g≠G:=fun e=>h2' _ (by rw [e];exact hb)
 refine (Below.heap_setCell w1 _ _ g hgG).trans (h4.block g hg fun e=>?_)
 rcases hL.1.2 with ⟨ev,_⟩ | ⟨g2,cap,cur,ev,_,hg2,_⟩
 ·rw [ev] at e
  simp [Value.ownBlock] at e
 ·rw [ev] at e
  have e3:g=g2:=by simpa [Value.ownBlock] using e
  exact h1 cur (by rw [e3];exact hg2)
end Go.Proofs.Ytdbeiikaeccbhaa
namespace Go.Proofs.Ytdbeiikaeccbhaa
open Go.RowKit
set_option maxRecDepth 100000
theorem make_row (m:Nat) (h2:m≤16) (w:World) :
  (Instr.makeSlice 22 (.int .i64 (m:Nat)) (.int .i64 (m:Nat))).run Try.prog w=.ok (.slice (some ⟨w.heap.size,0,none⟩) m m) (w.alloc (.cells (ints .u8 (List.replicate m 0)).toArray 5)):=by
 obtain ⟨i0,hi0,hz0,hz1,hz2⟩:=info_parts byte_info
 have hmk:=run_make1 (P:=Try.prog) 22 5 i0 _ Try.underlying22 hi0 hz0 hz1 rfl m (by rw [hz2];omega) (by simp only [maxLen];omega) w
 have hrep:rep m (.int .u8 0)=(ints .u8 (List.replicate m 0)).toArray:=by simp [rep,ints]
 rwa [hrep] at hmk
abbrev putF (G V TO:Nat):Value:=.func (.func 51) #[] #[.pointer (some ⟨G,0,none⟩),.pointer (some ⟨V,0,none⟩),.pointer (some ⟨TO,0,none⟩)]
theorem tl_row {tl:Nat→Int} {m:Nat} {o:Txt} (hl:o.length=m) (h:∀ j,j < m→o.getD j 0=tl j):o=(List.range m).map tl:=by
 refine List.ext_getElem (by simp [hl]) fun i h1 h2=>?_
 have:=h i (by omega)
 rw [gtD,geE h1] at this
 simpa using this
theorem pbypage_any (G V TO m:Nat) (D:Option Addr) (c:Nat) (mk:Txt) (lst:Nat→List Ac) (tl:Nat→Int) (w0 w:World) (hG:w.heap.size=G + 1) (hm:m≤16) (h0:Arg w0 .u8 D m c mk) (hb0:Below w0.heap.size w0 w) (hw0:w0.heap.size≤G) (hc:CollB w G (G + 2) (lst 0))
  (hOF:∀ k,k < m→∀ wx,Below G w wx→CollB wx G (G + 2) (lst k)→G + 2≤wx.heap.size→Calls Try.prog 51 #[.int .i64 (k:Int),.int .u8 (mk.getD k 0),.pointer (some ⟨G,0,none⟩),.pointer (some ⟨V,0,none⟩),.pointer (some ⟨TO,0,none⟩)] wx (fun e w'=>e=.returned (.int .u8 (tl k))∧CollOut wx G (G + 2) (lst (k + 1)) w')) :
  Calls Try.prog 50 #[.slice D m c,putF G V TO] w (fun e w'=>e=.returned (.slice (some ⟨G + 1,0,none⟩) m m)∧w'.ownsRow (G + 1) 5 1 (.slice (some ⟨G + 1,0,none⟩) m m) m (ints .u8 ((List.range m).map tl))∧CollB w' G (G + 2) (lst m)∧Below G w w'∧G + 2≤w'.heap.size):=by
 have hmk:=make_row m hm w
 have y:=Blk.new w 5 (ints .u8 (List.replicate m 0))
 have hk:Below w.heap.size w (w.alloc (.cells (ints .u8 (List.replicate m 0)).toArray 5)):=(Below.refl _ _).alloc (Nat.le_refl _) _
 have hsz:(w.alloc (.cells (ints .u8 (List.replicate m 0)).toArray 5)).heap.size=G + 2:=by rw [World.size_alloc,hG]
 obtain ⟨w1,hw1⟩:∃ x:World,x=w.alloc (.cells (ints .u8 (List.replicate m 0)).toArray 5):=⟨_,rfl⟩
 rw [← hw1] at y hk hmk hsz
 rw [hG] at hmk y
 have O1:=Lh (y.owns (base:=G + 1) (n:=m) (Nat.le_refl _) (by simp [ints]) (Nat.le_trans hm (by decide)))
 have C1:=Lh (hc.below hk)
 have B1:=Lh (hk.mono (show G≤w.heap.size by omega))
 have SZ:=Lh hsz
 have R0:=Lh h0
 have L0:=Lh h0.len
 have HB0:=Lh hb0
 have HW0:=Lh hw0
 have OF:=Lh hOF
 have HM:=Lh hm
 clear hG hm h0 hb0 hw0 hc hOF y hk hsz hw1
 go_enter Try.func50,Try.ntmps50
 go_upto_region 2 with fail
 clear hmk
 go_wp2
 go_loopw [13] (fun i wr=>∃ (k:Nat) (o:Txt),k≤m∧i=.int .i64 k∧o.length=m∧(∀ j,j < k→o.getD j 0=tl j)∧wr.ownsRow (G + 1) 5 1 (.slice (some ⟨G + 1,0,none⟩) m m) m (ints .u8 o)∧CollB wr G (G + 2) (lst k)∧Below G w wr∧G + 2≤wr.heap.size) (fun i _=>m - (intOf i).toNat)
 case atStart=>exact ⟨0,List.replicate m 0,Nat.zero_le _,rfl,by simp,fun j h=>absurd h (Nat.not_lt_zero _),O1.out,C1.out,B1.out,Nat.le_of_eq SZ.out.symm⟩
 case round =>
  obtain ⟨k,o,hk,rfl,hol,hall,hown,hco,hbw,hsz⟩:=hrel
  have OL:=Lh hol
  have ALL:=Lh hall
  have OW:=Lh hown
  have CO:=Lh hco
  have BW:=Lh hbw
  have SW:=Lh hsz
  have HM2:=HM.out
  clear hol hall hown hco hbw hsz O1 C1 B1 SZ
  by_cases hkm:k < m
  ·have hki:(k:Int) < (m:Int):=by omega
   have hwr:IntKind.i64.wrap (k:Int)=k:=Lib.wrap_i64_small k (by omega)
   have PK:=Lh (OF.out k hkm wr BW.out CO.out SW.out)
   obtain ⟨g1,o1,hD,hl1,z1⟩:=(R0.out.below (HB0.out.trans (BW.out.mono HW0.out))).seq.int (j:=k) (by rw [L0.out];exact hkm)
   obtain ⟨b0,hb0⟩:∃ y,y=mk.getD k 0:=⟨_,rfl⟩
   rw [← hb0] at z1 PK
   obtain ⟨v,hv⟩:∃ y,y=tl k:=⟨_,rfl⟩
   rw [← hv] at PK
   have HV:=Lh hv
   subst hD
   clear hb0 hv hl1
   go_wp2_with fail
   refine PK.out.mono ?_
   rintro e w2 ⟨rfl,hco⟩
   have C2:=Lh hco.1
   have B2:=Lh (BW.out.trans hco.2.1)
   have S2:=Lh (Nat.le_trans SW.out hco.2.1.size)
   have O2:=Lh (hco.2.2.owns OW.out)
   clear hco PK z1
   obtain ⟨g,hg,_,hc,hf,hset⟩:=owns_int_at O2.out hkm
   injection hg with hg
   injection hg with hg
   subst hg
   have SET:=Lh (hset v)
   clear hset
   go_wp2
   go_roundw
   case rel =>
    refine ⟨k + 1,o.set k v,by omega,by go_num,by rw [List.length_set];exact OL.out,fun y hy=>?_,SET.out,C2.out.away (by omega) (by omega) k _,B2.out.setCell (p:=⟨G + 1,k,none⟩) (Nat.le_succ _) _,by simpa [World.setCell] using S2.out⟩
    rw [set_getP (by rw [OL.out];exact hkm)]
    by_cases hyk:y=k
    ·rw [if_pos hyk,hyk]
     exact HV.out
    ·rw [if_neg hyk]
     exact ALL.out y (by omega)
   case measure=>simp [intOf];omega
  ·obtain rfl:k=m:=by omega
   have hlL:=tl_row OL.out ALL.out
   rw [hlL] at OW
   clear hlL
   go_wp2
   go_ret
   exact ⟨rfl,OW.out,CO.out,BW.out,SW.out⟩
end Go.Proofs.Ytdbeiikaeccbhaa
