/- Texts of layers 1 to 12, joined. -/
import Derived.Test.YtifgcfepbenpjaaGreatNb12
import Derived.WalkSpells
set_option maxRecDepth 100000
set_option maxHeartbeats 12800000
set_option linter.unusedVariables false
namespace Go.Proofs.YtifgcfepbenpjaaGreat
open Go.RowKit
def busyTo (S:List Sec) (C:List Pnd) (at_:Int) (n:Nat):Bool:=(List.range n).any fun i:Nat=>waB S C (at_ + (i:Int))
theorem busy_no {S:List Sec} {C:List Pnd} {at_:Int} {n:Nat} (h:∀ i,i < n→waB S C (at_ + (i:Int))=false):busyTo S C at_ n=false:=by
 unfold busyTo
 rw [List.any_eq_false]
 intro i hi
 rw [List.mem_range] at hi
 rw [h i hi]
 decide
theorem busy_yes {S:List Sec} {C:List Pnd} {at_:Int} {n i:Nat} (hi:i < n) (h:waB S C (at_ + (i:Int))=true):busyTo S C at_ n=true:=by
 unfold busyTo
 rw [List.any_eq_true]
 exact ⟨i,List.mem_range.2 hi,h⟩
theorem busy_any (A:Option Addr) (n c:Nat) (A':Option Addr) (n' c':Nat) (S:List Sec) (C:List Pnd) (a N:Nat) (w:World) (hq:Dsk w A n c A' n' c' S C) (hs:SmallD S C) (ha:a≤1000) (hN:N≤1000) :
  Calls Tryz.prog 180 #[diskV A n c A' n' c',.int .i64 a,.int .i64 N] w fun e w'=>e=.returned (.bool (busyTo S C a N))∧Below w.heap.size w w':=by
 have hbel:Below w.heap.size w (w.alloc (.cells #[.slice A n c,.slice A' n' c'] 25)):=(Below.refl _ _).alloc (Nat.le_refl _) _
 have x:=DBox.new hq
 obtain ⟨w1,hW⟩:∃ x:World,x=w.alloc (.cells #[.slice A n c,.slice A' n' c'] 25):=⟨_,rfl⟩
 rw [← hW] at hbel x
 have X:=Lh x
 have B:=Lh hbel
 have WA:=Lh (fun (k:Nat) wx (hx:Below w1.heap.size w1 wx)=>dsk_does.waits A n c A' n' c' S C ((a:Int) + (k:Int)) wx (x.below hx).dsk hs)
 clear hbel x hq hs
 go_enter Tryz.func180,Tryz.ntmps180
 go_wp2
 rw [← hW]
 clear hW
 go_loopw [11,7,8,9] (fun i _ _ _ wr=>∃ k:Nat,k≤N∧i=.int .i64 k∧(∀ i,i < k→waB S C ((a:Int) + (i:Int))=false)∧Below w1.heap.size w1 wr) (fun i _ _ _ _=>N - (intOf i).toNat)
 case atStart=>exact ⟨0,Nat.zero_le _,rfl,fun i hi=>absurd hi (Nat.not_lt_zero _),Below.refl _ _⟩
 case round =>
  obtain ⟨k,hk,rfl,hno,hb⟩:=hrel
  by_cases hkn:k < N
  ·have hki:(k:Int) < (N:Int):=by omega
   have hwa:wrap64 ((a:Int) + (k:Int))=(a:Int) + (k:Int):=by unfold wrap64;omega
   have R:=Lh (WA.out k wr hb)
   obtain ⟨c0,c1⟩:=(X.out.below hb).cells
   have HB:=Lh hb
   have HNO:=Lh hno
   obtain ⟨q,hq⟩:∃ q,q=waB S C ((a:Int) + (k:Int)):=⟨_,rfl⟩
   rw [← hq] at R
   have HQ:=Lh hq
   clear hb hno hq
   go_wp2_with fail
   refine R.out.mono ?_
   rintro e w2 ⟨rfl,hb2⟩
   have HB2:=Lh (HB.out.trans (hb2.mono HB.out.size))
   clear hb2 R HB c0 c1
   cases q with
   | true =>
    go_wp2
    go_ret
    exact ⟨by rw [busy_yes hkn HQ.out.symm];rfl,B.out.trans (HB2.out.mono B.out.size)⟩
   | false =>
    go_wp2
    go_roundw
    case rel=>exact ⟨k + 1,by omega,by go_num,fun i hi=>by rcases Nat.lt_or_ge i k with h | h;(exact HNO.out i h);(have e:i=k:=Nat.le_antisymm (Nat.le_of_lt_succ hi) h;subst e;exact HQ.out.symm),HB2.out⟩
    all_goals (try case measure=>simp [intOf];omega)
  ·obtain rfl:k=N:=by omega
   have HNO:=Lh hno
   have HB:=Lh hb
   clear hno hb
   go_wp2
   go_ret
   exact ⟨by rw [busy_no HNO.out];rfl,B.out.trans (HB.out.mono B.out.size)⟩
def countTo (l:List (Option Txt)):Nat→Int
 | 0=>0
 | k + 1=>match l.getD k none with | none=>countTo l k | some T=>max (countTo l k) (verOf T)
theorem count_bounds {l:List (Option Txt)} {n:Nat} (h:∀ i,i < n→∀ T,l.getD i none=some T→0≤verOf T∧verOf T < 4294967296):∀ k,k≤n→0≤countTo l k∧countTo l k < 4294967296:=by
 intro k
 induction k with
 | zero=>intro _;exact ⟨Int.le_refl 0,by show (0:Int) < 4294967296;decide⟩
 | succ k ih =>
  intro hk
  have h1:=ih (by omega)
  rw [countTo]
  rcases h2:l.getD k none with _ | T
  ·exact h1
  ·have h3:=h k (by omega) T h2
   dsimp only
   omega
theorem count_any (b o n c:Nat) (l:List (Option Txt)) (w:World) (h:Opts w (some ⟨b,o,none⟩) n c l) (hn:n≤1000) :
  Calls Tryz.prog 181 #[.slice (some ⟨b,o,none⟩) n c] w fun e w'=>e=.returned (.int .u32 (countTo l n))∧Below w.heap.size w w':=by
 have HP:=Lh h
 have hnil:=fun A n c w=>run_neq_slice_nil_any (P:=Tryz.prog) w 42 5 A n c 0 0 Tryz.underlying42
 have hfl:∀ (v n0 m:Int) (w:World),(Instr.field 288 (rowV v n0 m) 0).run Tryz.prog w=.ok (.int .u32 v) w:=fun v n0 m w=>by kernel_rfl
 clear h
 go_enter Tryz.func181,Tryz.ntmps181
 go_wp2
 go_loopw [8,3,5] (fun i v _ wr=>∃ k:Nat,k≤n∧i=.int .i64 k∧v=.int .u32 (countTo l k)∧Below w.heap.size w wr) (fun i _ _ _=>n - (intOf i).toNat)
 case atStart=>exact ⟨0,Nat.zero_le _,rfl,rfl,Below.refl _ _⟩
 case round =>
  obtain ⟨k,hk,rfl,rfl,hb⟩:=hrel
  by_cases hkn:k < n
  ·have hki:(k:Int) < (n:Int):=by omega
   obtain ⟨b',o',Ai,ni,ci,e,hlt,hc,ha⟩:=HP.out.at_ k hkn
   injection e with e
   injection e with e1 e2 _
   subst e1
   subst e2
   have c0:=(hb.cell (p:=⟨b,o + k,none⟩) hlt).trans hc
   rcases hlk:l.getD k none with _ | T
   ·rw [hlk] at ha
    obtain ⟨rfl,rfl,rfl⟩:=ha
    have hct:countTo l (k + 1)=countTo l k:=by rw [countTo,hlk]
    have HB:=Lh hb
    have HCT:=Lh hct
    clear hb hct hc hlk
    go_wp2
    go_roundw
    case rel=>exact ⟨k + 1,by omega,by go_num,by rw [HCT.out],HB.out⟩
    all_goals (try case measure=>simp [intOf];omega)
   ·rw [hlk] at ha
    obtain ⟨hT,h32,hby⟩:=ha
    obtain rfl:ni=32:=by rw [← hT.len,h32]
    obtain ⟨bb,oo,rfl,_,_⟩:=hT.seq.at_ (by rw [ints_length];omega)
    have R:=Lh (rowOf_any bb oo ci T wr (hT.below hb) hby)
    have hct:countTo l (k + 1)=max (countTo l k) (verOf T):=by rw [countTo,hlk]
    obtain ⟨v,hv⟩:∃ v,v=verOf T:=⟨_,rfl⟩
    obtain ⟨u,hu⟩:∃ v,v=countTo l k:=⟨_,rfl⟩
    rw [← hv] at R hct
    rw [← hu] at hct ⊢
    have HB:=Lh hb
    have HCT:=Lh hct
    clear hb hct hc hlk hT h32 hby hv hu
    go_wp2_with fail
    refine R.out.mono ?_
    rintro e w2 ⟨n0,rfl,hb2⟩
    have HB2:=Lh (HB.out.trans (hb2.mono HB.out.size))
    clear hb2 R HB c0
    by_cases hvu:u < v
    ·have hmx:max u v=v:=by omega
     rw [hmx] at HCT
     clear hmx
     go_wp2
     go_roundw
     case rel=>exact ⟨k + 1,by omega,by go_num,by rw [HCT.out],HB2.out⟩
     all_goals (try case measure=>simp [intOf];omega)
    ·have hmx:max u v=u:=by omega
     rw [hmx] at HCT
     clear hmx
     go_wp2
     go_roundw
     case rel=>exact ⟨k + 1,by omega,by go_num,by rw [HCT.out],HB2.out⟩
     all_goals (try case measure=>simp [intOf];omega)
  ·obtain rfl:k=n:=by omega
   have HB:=Lh hb
   clear hb
   go_wp2
   go_ret
   exact ⟨rfl,HB.out⟩
def chunk (b:Txt) (k:Nat):Txt:=(b.drop (24 * k)).take 24
def textsOf (v:Int) (b:Txt) (m:Nat):List Txt:=(List.range m).map fun k:Nat=>partT v k (chunk b k)
theorem textsOf_length (v:Int) (b:Txt) (m:Nat):(textsOf v b m).length=m:=by simp [textsOf]
theorem textsOf_get (v:Int) (b:Txt) {m k:Nat} (h:k < m):(textsOf v b m).getD k []=partT v k (chunk b k):=by
 rw [gtD,geE (by rw [textsOf_length];exact h)]
 simp [textsOf]
def TxtsIn (w:World) (base:Nat) (vs:List Value) (l:List Txt) (k:Nat):Prop:=∀ i,i < k→∃ g,vs[i]?=some (.slice (some ⟨g,0,none⟩) 32 32)∧OwnTxt w base (some ⟨g,0,none⟩) 32 32 (l.getD i [])
theorem TxtsIn.below {w w':World} {base:Nat} {vs:List Value} {l:List Txt} {k:Nat} (h:TxtsIn w base vs l k) (hb:Below w.heap.size w w'):TxtsIn w' base vs l k:=fun i hi=>by
 obtain ⟨g,e,ho⟩:=h i hi
 exact ⟨g,e,ho.below hb⟩
theorem TxtsIn.put {w:World} {base g:Nat} {vs:List Value} {l:List Txt} {k:Nat} (h:TxtsIn w base vs l k) (hb:Blk w g 42 vs) (hk:k < vs.length) {G:Nat} (ho:OwnTxt w base (some ⟨G,0,none⟩) 32 32 (l.getD k [])):TxtsIn (w.setCell ⟨g,k,none⟩ (.slice (some ⟨G,0,none⟩) 32 32)) base (vs.set k (.slice (some ⟨G,0,none⟩) 32 32)) l (k + 1):=fun i hi=>by
 by_cases e:i=k
 ·subst e
  exact ⟨G,by rw [List.getElem?_set_self hk],ho.box hb (by decide) _ _⟩
 ·obtain ⟨g1,e1,h1⟩:=h i (by omega)
  exact ⟨g1,by rw [List.getElem?_set_ne (fun h=>e h.symm)];exact e1,h1.box hb (by decide) _ _⟩
theorem texts_any (v:Int) (hv:0≤v∧v < 4294967296) (A:Option Addr) (n c:Nat) (b:Txt) (m:Nat) (hm:m≤200) (w:World) (hb:Arg w .u8 A n c b) (hn:n≤100000) :
  Calls Tryz.prog 183 #[contV v A n c,.int .i64 (m:Int)] w fun e w'=>∃ G vs,e=.returned (.slice (some ⟨G,0,none⟩) m m)∧w.heap.size≤G∧vs.length=m∧Blk w' G 42 vs∧TxtsIn w' w.heap.size vs (textsOf v b m) m∧Below w.heap.size w w':=by
 have x:=Blk.new w 209 [.int .u32 v,.slice A n c]
 have hbel:Below w.heap.size w (w.alloc (.cells #[.int .u32 v,.slice A n c] 209)):=(Below.refl _ _).alloc (Nat.le_refl _) _
 obtain ⟨w1,hW⟩:∃ x:World,x=w.alloc (.cells #[.int .u32 v,.slice A n c] 209):=⟨_,rfl⟩
 rw [← hW] at x hbel
 have hlt:=x.lt
 obtain ⟨V0,hV0⟩:∃ V:List Value,V=List.replicate m (.slice none 0 0):=⟨_,rfl⟩
 have hmk:(Instr.makeSlice 103 (.int .i64 (m:Int)) (.int .i64 (m:Int))).run Tryz.prog w1=.ok (.slice (some ⟨w1.heap.size,0,none⟩) m m) (w1.alloc (.cells V0.toArray 42)):=by
  rw [hV0]
  exact make_opts m (by omega) w1
 have y:=Blk.new w1 42 V0
 have hb1:Below w1.heap.size w1 (w1.alloc (.cells V0.toArray 42)):=(Below.refl _ _).alloc (Nat.le_refl _) _
 have hbW:=hbel.trans (hb1.mono hbel.size)
 have x2:=x.below hb1 hlt
 have c0:=x2.cell 0
 have c1:=x2.cell 1
 simp only [gcZ,gcS] at c0 c1
 have HV0:=Lh (show V0.length=m by rw [hV0,List.length_replicate])
 obtain ⟨w2,hV⟩:∃ x:World,x=w1.alloc (.cells V0.toArray 42):=⟨_,rfl⟩
 rw [← hV] at y hbW x2 c0 c1 hmk
 obtain ⟨G,hG⟩:∃ G,G=w1.heap.size:=⟨_,rfl⟩
 rw [← hG] at y hmk
 have HGw:=Lh (show w.heap.size < G by rw [hG];exact hlt)
 have X:=Lh x2
 have Y:=Lh y
 have BW:=Lh hbW
 have HB:=Lh hb
 have HS2:=Lh (show G < w2.heap.size from Y.out.lt)
 have HBN:=Lh hb.len
 have hcap:=hb.cap
 have hmax:=hb.max
 unfold maxLen at hmax
 have HVB:=Lh hv
 clear x hbel y hb1 hbW x2 hV hG hV0 hlt hv
 go_enter Tryz.func183,Tryz.ntmps183
 go_upto_region 1 with fail
 rw [← hW]
 clear hW
 go_wp2
 go_loopw [15,7,6,8] (fun i _ r _ wr=>∃ (k:Nat) (Ar:Option Addr) (nr cr:Nat) (vs:List Value),k≤m∧i=.int .i64 k∧r=.slice Ar nr cr∧Arg w .u8 Ar nr cr (b.drop (24 * k))∧vs.length=m∧Blk wr G 42 vs∧Blk wr w.heap.size 209 [.int .u32 v,.slice A n c]∧TxtsIn wr w.heap.size vs (textsOf v b m) k∧Below w.heap.size w wr) (fun i _ _ _ _=>m - (intOf i).toNat)
 case atStart=>exact ⟨0,A,n,c,V0,Nat.zero_le _,rfl,rfl,by rw [Nat.mul_zero,List.drop_zero];exact hb,HV0.out,Y.out,X.out,fun i hi=>absurd hi (Nat.not_lt_zero _),BW.out⟩
 case round =>
  obtain ⟨k,Ar,nr,cr,vs,hk,rfl,rfl,har,hvl,hy,hx,hin,hbw⟩:=hrel
  by_cases hkm:k < m
  ·have hki:(k:Int) < (m:Int):=by omega
   have hk256:(0:Int)≤(k:Int)∧(k:Int) < 256:=by omega
   have HK:=Lh hk256
   have HGne:=Lh (show w.heap.size≠G by have:=HGw.out;omega)
   obtain ⟨v4,hv4⟩:∃ v,vs[k]?=some v:=⟨_,geE (by rw [hvl];exact hkm)⟩
   have HV4:=Lh hv4
   have HY:=Lh hy
   have HX:=Lh hx
   have HIN:=Lh hin
   have HBW:=Lh hbw
   have HVL:=Lh hvl
   have HTG:=Lh (textsOf_get v b hkm)
   have hcc:=har.cap
   have hmx:=har.max
   unfold maxLen at hmx
   have c0:=hx.cell 0
   have c1:=hx.cell 1
   simp only [gcZ,gcS] at c0 c1
   clear hy hx hin hbw hvl hv4 hk256 X Y BW
   have hlen:(b.drop (24 * k)).length=nr:=har.len
   cases Ar with
   | none =>
    have h0:nr=0:=by
     rcases Nat.eq_zero_or_pos nr with h | h
     ·exact h
     ·obtain ⟨_,_,e,_,_⟩:=har.seq.at_ (by rw [ints_length,hlen];exact h)
      cases e
    subst h0
    have hd:b.drop (24 * k)=[]:=List.eq_nil_of_length_eq_zero hlen
    have hch:Arg w .u8 none 0 cr (chunk b k):=by unfold chunk;rw [hd];exact ⟨Seq.empty,rfl,Nat.zero_le _,har.max⟩
    have hnx:Arg w .u8 none 0 cr (b.drop (24 * (k + 1))):=by rw [Nat.mul_succ,← List.drop_drop,hd];exact ⟨Seq.empty,rfl,Nat.zero_le _,har.max⟩
    have HAR:=Lh har
    have HAC:=Lh (hch:Arg w .u8 none 0 cr (chunk b k))
    have HNX:=Lh hnx
    have HQ:=Lh (show (0:Int)≤(0:Int)∧(0:Int) < 256 by omega)
    have HQ24:=Lh (show 0≤24 by omega)
    have HCL:=Lh hch.len
    clear har hch hnx hb
    go_upto_region 7 with fail
    have hcur:Below wr.heap.size wr wr.drew:=below_drewN (Below.refl _ _) 1
    have keepX:∀ wx,Below wr.heap.size wr wx→wx.cell? ⟨w.heap.size,0,none⟩=some (.int .u32 v):=fun wx hx=>(HX.out.below hx HX.out.lt).cell 0
    have hkX:=keepX _ hcur
    have HAW:=Lh (HAC.out.below (HBW.out.trans (hcur.mono HBW.out.size)))
    go_region_held3 (fun w'=>w'.cell? ⟨w.heap.size,0,none⟩=some (.int .u32 v))
     (first | exact hkX | exact ((HX.out.below hcur HX.out.lt).away HGne.out k _).cell 0 | go_keep)
     (first | (go_at_call 204;with_reducible refine (text_any v (k:Int) (0:Int) HVB.out HK.out HQ.out none 0 cr (chunk b k) wr.drew HAW.out HQ24.out).mono ?_;rintro e w4 ⟨g4,rfl,hown,hb4⟩;have hcur:=hcur.trans (hb4.mono hcur.size);have hkX:=keepX _ hcur;have y4:=HY.out.below hcur HY.out.lt;have q0:=(y4.cell k).trans HV4.out;have q1:=y4.free k))
    have HCUR:=Lh hcur
    have HO4:=Lh (show OwnTxt w4 w.heap.size (some ⟨g4,0,none⟩) 32 32 ((textsOf v b m).getD k []) by
     rw [HTG.out]
     unfold partT
     rw [HCL.out]
     have o:=(OwnTxt.of hown).lower (Nat.le_trans HBW.out.size (show wr.heap.size≤wr.drew.heap.size from Nat.le_refl _))
     rw [HCL.out] at o
     exact o)
    have IN4:=Lh (HIN.out.below hcur)
    have Y4:=Lh y4
    have X4:=Lh (HX.out.below hcur HX.out.lt)
    have B4:=Lh (HBW.out.trans (hcur.mono HBW.out.size))
    clear hown hb4 y4 hkX keepX hcur q0 q1 c0 c1 HAW HAC
    go_wp2
    go_roundw
    case rel=>exact ⟨k + 1,none,0,cr,vs.set k (.slice (some ⟨g4,0,none⟩) 32 32),by omega,by go_num,rfl,HNX.out,by rw [List.length_set];exact HVL.out,Y4.out.set k _,X4.out.away HGne.out k _,IN4.out.put Y4.out (by rw [HVL.out];exact hkm) HO4.out,B4.out.setCell (p:=⟨G,k,none⟩) (Nat.le_of_lt HGw.out) _⟩
    all_goals (try case measure=>simp [intOf];omega)
   | some ad =>
    by_cases h24:24 < nr
    ·obtain ⟨g,o,e,hgl,_⟩:=har.seq.at_ (by rw [ints_length,hlen];omega)
     injection e with e
     subst e
     have h24i:(24:Int) < (nr:Int):=by omega
     have h24c:(24:Int)≤(cr:Int):=by omega
     have hch:Arg w .u8 (some ⟨g,o,none⟩) 24 cr (chunk b k):=har.first (m:=24) (by omega)
     have hnx:Arg w .u8 (some ⟨g,o + 24,none⟩) (nr - 24) (cr - 24) (b.drop (24 * (k + 1))):=by
      refine ⟨?_,by rw [List.length_drop] at hlen ⊢;omega,by omega,by unfold maxLen;omega⟩
      have h:=har.seq.drop 24
      unfold ints at h ⊢
      rw [← List.map_drop,List.drop_drop] at h
      rw [Nat.mul_succ]
      exact h
     have HAR:=Lh har
     have HAC:=Lh (hch:Arg w .u8 (some ⟨g,o,none⟩) 24 cr (chunk b k))
     have HNX:=Lh hnx
     have HQ:=Lh (show (0:Int)≤(24:Int)∧(24:Int) < 256 by omega)
     have HQ24:=Lh (show 24≤24 by omega)
     have HCL:=Lh hch.len
     clear har hch hnx hb
     go_upto_region 7 with fail
     have hcur:Below wr.heap.size wr wr.drew:=below_drewN (Below.refl _ _) 1
     have keepX:∀ wx,Below wr.heap.size wr wx→wx.cell? ⟨w.heap.size,0,none⟩=some (.int .u32 v):=fun wx hx=>(HX.out.below hx HX.out.lt).cell 0
     have hkX:=keepX _ hcur
     have HAW:=Lh (HAC.out.below (HBW.out.trans (hcur.mono HBW.out.size)))
     go_region_held3 (fun w'=>w'.cell? ⟨w.heap.size,0,none⟩=some (.int .u32 v))
      (first | exact hkX | exact ((HX.out.below hcur HX.out.lt).away HGne.out k _).cell 0 | go_keep)
      (first | (go_at_call 204;with_reducible refine (text_any v (k:Int) (24:Int) HVB.out HK.out HQ.out (some ⟨g,o,none⟩) 24 cr (chunk b k) wr.drew HAW.out HQ24.out).mono ?_;rintro e w4 ⟨g4,rfl,hown,hb4⟩;have hcur:=hcur.trans (hb4.mono hcur.size);have hkX:=keepX _ hcur;have y4:=HY.out.below hcur HY.out.lt;have q0:=(y4.cell k).trans HV4.out;have q1:=y4.free k))
     have HCUR:=Lh hcur
     have HO4:=Lh (show OwnTxt w4 w.heap.size (some ⟨g4,0,none⟩) 32 32 ((textsOf v b m).getD k []) by
      rw [HTG.out]
      unfold partT
      rw [HCL.out]
      have o:=(OwnTxt.of hown).lower (Nat.le_trans HBW.out.size (show wr.heap.size≤wr.drew.heap.size from Nat.le_refl _))
      rw [HCL.out] at o
      exact o)
     have IN4:=Lh (HIN.out.below hcur)
     have Y4:=Lh y4
     have X4:=Lh (HX.out.below hcur HX.out.lt)
     have B4:=Lh (HBW.out.trans (hcur.mono HBW.out.size))
     clear hown hb4 y4 hkX keepX hcur q0 q1 c0 c1 HAW HAC
     go_wp2
     go_roundw
     case rel=>exact ⟨k + 1,(some ⟨g,o + 24,none⟩),(nr - 24),(cr - 24),vs.set k (.slice (some ⟨g4,0,none⟩) 32 32),by omega,by go_num,rfl,HNX.out,by rw [List.length_set];exact HVL.out,Y4.out.set k _,X4.out.away HGne.out k _,IN4.out.put Y4.out (by rw [HVL.out];exact hkm) HO4.out,B4.out.setCell (p:=⟨G,k,none⟩) (Nat.le_of_lt HGw.out) _⟩
     all_goals (try case measure=>simp [intOf];omega)
    ·by_cases h0:nr=0
     ·subst h0
      have hd:b.drop (24 * k)=[]:=List.eq_nil_of_length_eq_zero hlen
      have hch:Arg w .u8 (some ad) 0 cr (chunk b k):=by unfold chunk;rw [hd];exact ⟨Seq.empty,rfl,Nat.zero_le _,har.max⟩
      have hnx:Arg w .u8 (some ad) 0 cr (b.drop (24 * (k + 1))):=by rw [Nat.mul_succ,← List.drop_drop,hd];exact ⟨Seq.empty,rfl,Nat.zero_le _,har.max⟩
      have HAR:=Lh har
      have HAC:=Lh (hch:Arg w .u8 (some ad) 0 cr (chunk b k))
      have HNX:=Lh hnx
      have HQ:=Lh (show (0:Int)≤(0:Int)∧(0:Int) < 256 by omega)
      have HQ24:=Lh (show 0≤24 by omega)
      have HCL:=Lh hch.len
      clear har hch hnx hb
      go_upto_region 7 with fail
      have hcur:Below wr.heap.size wr wr.drew:=below_drewN (Below.refl _ _) 1
      have keepX:∀ wx,Below wr.heap.size wr wx→wx.cell? ⟨w.heap.size,0,none⟩=some (.int .u32 v):=fun wx hx=>(HX.out.below hx HX.out.lt).cell 0
      have hkX:=keepX _ hcur
      have HAW:=Lh (HAC.out.below (HBW.out.trans (hcur.mono HBW.out.size)))
      go_region_held3 (fun w'=>w'.cell? ⟨w.heap.size,0,none⟩=some (.int .u32 v))
       (first | exact hkX | exact ((HX.out.below hcur HX.out.lt).away HGne.out k _).cell 0 | go_keep)
       (first | (go_at_call 204;with_reducible refine (text_any v (k:Int) (0:Int) HVB.out HK.out HQ.out (some ad) 0 cr (chunk b k) wr.drew HAW.out HQ24.out).mono ?_;rintro e w4 ⟨g4,rfl,hown,hb4⟩;have hcur:=hcur.trans (hb4.mono hcur.size);have hkX:=keepX _ hcur;have y4:=HY.out.below hcur HY.out.lt;have q0:=(y4.cell k).trans HV4.out;have q1:=y4.free k))
      have HCUR:=Lh hcur
      have HO4:=Lh (show OwnTxt w4 w.heap.size (some ⟨g4,0,none⟩) 32 32 ((textsOf v b m).getD k []) by
       rw [HTG.out]
       unfold partT
       rw [HCL.out]
       have o:=(OwnTxt.of hown).lower (Nat.le_trans HBW.out.size (show wr.heap.size≤wr.drew.heap.size from Nat.le_refl _))
       rw [HCL.out] at o
       exact o)
      have IN4:=Lh (HIN.out.below hcur)
      have Y4:=Lh y4
      have X4:=Lh (HX.out.below hcur HX.out.lt)
      have B4:=Lh (HBW.out.trans (hcur.mono HBW.out.size))
      clear hown hb4 y4 hkX keepX hcur q0 q1 c0 c1 HAW HAC
      go_wp2
      go_roundw
      case rel=>exact ⟨k + 1,(some ad),0,cr,vs.set k (.slice (some ⟨g4,0,none⟩) 32 32),by omega,by go_num,rfl,HNX.out,by rw [List.length_set];exact HVL.out,Y4.out.set k _,X4.out.away HGne.out k _,IN4.out.put Y4.out (by rw [HVL.out];exact hkm) HO4.out,B4.out.setCell (p:=⟨G,k,none⟩) (Nat.le_of_lt HGw.out) _⟩
      all_goals (try case measure=>simp [intOf];omega)
     ·obtain ⟨g,o,e,hgl,_⟩:=har.seq.at_ (by rw [ints_length,hlen];omega)
      injection e with e
      subst e
      have h24i:¬ (24:Int) < (nr:Int):=by omega
      have hnc:(nr:Int)≤(cr:Int):=by omega
      have hch:Arg w .u8 (some ⟨g,o,none⟩) nr cr (chunk b k):=by
       have h:=har.first (m:=nr) (Nat.le_refl _)
       rwa [List.take_of_length_le (Nat.le_of_eq hlen),show b.drop (24 * k)=chunk b k by unfold chunk;rw [List.take_of_length_le (by omega)]] at h
      have hnx:∀ Ax,Arg w .u8 Ax 0 (cr - nr) (b.drop (24 * (k + 1))):=by
       have hz:b.drop (24 * (k + 1))=[]:=List.drop_of_length_le (by rw [List.length_drop] at hlen;omega)
       rw [hz]
       exact fun _=>⟨Seq.empty,rfl,Nat.zero_le _,by unfold maxLen;omega⟩
      have HAR:=Lh har
      have HAC:=Lh (hch:Arg w .u8 (some ⟨g,o,none⟩) nr cr (chunk b k))
      have HNX:=Lh hnx
      have HQ:=Lh (show (0:Int)≤((nr:Nat):Int)∧((nr:Nat):Int) < 256 by omega)
      have HQ24:=Lh (show nr≤24 by omega)
      have HCL:=Lh hch.len
      clear har hch hnx hb
      go_upto_region 7 with fail
      have hcur:Below wr.heap.size wr wr.drew:=below_drewN (Below.refl _ _) 1
      have keepX:∀ wx,Below wr.heap.size wr wx→wx.cell? ⟨w.heap.size,0,none⟩=some (.int .u32 v):=fun wx hx=>(HX.out.below hx HX.out.lt).cell 0
      have hkX:=keepX _ hcur
      have HAW:=Lh (HAC.out.below (HBW.out.trans (hcur.mono HBW.out.size)))
      go_region_held3 (fun w'=>w'.cell? ⟨w.heap.size,0,none⟩=some (.int .u32 v))
       (first | exact hkX | exact ((HX.out.below hcur HX.out.lt).away HGne.out k _).cell 0 | go_keep)
       (first | (go_at_call 204;with_reducible refine (text_any v (k:Int) ((nr:Nat):Int) HVB.out HK.out HQ.out (some ⟨g,o,none⟩) nr cr (chunk b k) wr.drew HAW.out HQ24.out).mono ?_;rintro e w4 ⟨g4,rfl,hown,hb4⟩;have hcur:=hcur.trans (hb4.mono hcur.size);have hkX:=keepX _ hcur;have y4:=HY.out.below hcur HY.out.lt;have q0:=(y4.cell k).trans HV4.out;have q1:=y4.free k))
      have HCUR:=Lh hcur
      have HO4:=Lh (show OwnTxt w4 w.heap.size (some ⟨g4,0,none⟩) 32 32 ((textsOf v b m).getD k []) by
       rw [HTG.out]
       unfold partT
       rw [HCL.out]
       have o:=(OwnTxt.of hown).lower (Nat.le_trans HBW.out.size (show wr.heap.size≤wr.drew.heap.size from Nat.le_refl _))
       rw [HCL.out] at o
       exact o)
      have IN4:=Lh (HIN.out.below hcur)
      have Y4:=Lh y4
      have X4:=Lh (HX.out.below hcur HX.out.lt)
      have B4:=Lh (HBW.out.trans (hcur.mono HBW.out.size))
      clear hown hb4 y4 hkX keepX hcur q0 q1 c0 c1 HAW HAC
      go_wp2
      go_roundw
      case rel=>exact ⟨k + 1,_,0,(cr - nr),vs.set k (.slice (some ⟨g4,0,none⟩) 32 32),by omega,by go_num,rfl,HNX.out _,by rw [List.length_set];exact HVL.out,Y4.out.set k _,X4.out.away HGne.out k _,IN4.out.put Y4.out (by rw [HVL.out];exact hkm) HO4.out,B4.out.setCell (p:=⟨G,k,none⟩) (Nat.le_of_lt HGw.out) _⟩
      all_goals (try case measure=>simp [intOf];omega)
  ·obtain rfl:k=m:=by omega
   have HY:=Lh hy
   have HIN:=Lh hin
   have HBW:=Lh hbw
   have HVL:=Lh hvl
   clear hy hin hbw hvl hx har hb c0 c1
   go_wp2
   go_ret
   exact ⟨G,vs,rfl,Nat.le_of_lt HGw.out,HVL.out,HY.out,HIN.out,HBW.out⟩
theorem make_pnds (n:Nat) (hn:n≤1024) (w:World) :
  (Instr.makeSlice 23 (.int .i64 (n:Int)) (.int .i64 (n:Int))).run Tryz.prog w=.ok (.slice (some ⟨w.heap.size,0,none⟩) n n) (w.alloc (.cells (madeCells #[.int .i64 0,.slice none 0 0] (n * 2)) 114)):=by
 obtain ⟨i,hi,hz,h1,hb⟩:=info_parts pnd_info
 have hr:=run_make (P:=Tryz.prog) w 23 114 i _ Tryz.underlying23 hi hz .i64 .i64 n n (by omega) (Int.le_refl _) (by rw [hb];omega) (by omega)
 simp only [Int.toNat_natCast,h1] at hr
 exact hr
def someP (at_:Int) (l:List Txt) (n k:Nat):List Pnd:=(List.range n).map fun i:Nat=>if i < k then (at_ + (i:Int),l.getD i []) else (0,[])
theorem someP_len (at_:Int) (l:List Txt) (n k:Nat):(someP at_ l n k).length=n:=by simp [someP]
theorem someP_at {at_:Int} {l:List Txt} {n k i:Nat} (h:i < n):(someP at_ l n k).getD i (0,[])=if i < k then (at_ + (i:Int),l.getD i []) else (0,[]):=by
 rw [gtD,geE (by rw [someP_len];exact h)]
 simp [someP]
theorem someP_step {at_:Int} {l:List Txt} {n k:Nat} (h:k < n):(someP at_ l n k).set k (at_ + (k:Int),l.getD k [])=someP at_ l n (k + 1):=by
 have hg:∀ j i,i < n→(someP at_ l n j)[i]?=some (if i < j then (at_ + (i:Int),l.getD i []) else (0,[])):=fun j i h=>by
  rw [geE (by rw [someP_len];exact h)]
  simp [someP]
 apply List.ext_getElem?
 intro i
 rcases Nat.lt_or_ge i n with hi | hi
 ·rw [hg (k + 1) i hi]
  by_cases e:k=i
  ·subst e
   rw [List.getElem?_set_self (by rw [someP_len];exact h),if_pos (Nat.lt_succ_self k)]
  ·rw [List.getElem?_set_ne e,hg k i hi]
   by_cases h3:i < k
   ·rw [if_pos h3,if_pos (by omega)]
   ·rw [if_neg h3,if_neg (by omega)]
 ·rw [List.getElem?_eq_none (by rw [List.length_set,someP_len];exact hi),List.getElem?_eq_none (by rw [someP_len];exact hi)]
def writesP (at_:Int) (l:List Txt) (n:Nat):List Pnd:=someP at_ l n n
theorem made_pnds (at_:Int) (l:List Txt) (n:Nat) (hn:n≤1024) (w:World):OwnPnds (w.alloc (.cells (madeCells #[.int .i64 0,.slice none 0 0] (n * 2)) 114)) w.heap.size (some ⟨w.heap.size,0,none⟩) n n (someP at_ l n 0):=by
 have hml:(1024:Nat)≤maxLen:=by decide
 refine ⟨(madeCells #[.int .i64 0,.slice none 0 0] (n * 2)).toList,⟨by simp [size_madeCells],.inr ⟨w.heap.size,n,madeCells #[.int .i64 0,.slice none 0 0] (n * 2),rfl,Nat.le_refl _,heap_alloc_new w _,Nat.le_refl _,by omega,size_madeCells _ _,?_⟩⟩,someP_len _ _ n 0,?_,fun i hi=>?_⟩
 ·rw [List.take_of_length_le (by simp [size_madeCells])]
 ·intro s hs
  unfold someP at hs
  obtain ⟨i,hi,rfl⟩:=List.mem_map.1 hs
  simp
 ·rw [someP_at hi,if_neg (by omega)]
  refine ⟨none,0,0,?_,?_,OwnTxt.nil _ _⟩
  ·simp [madeCells,show i * 2 + 1 < n * 2 by omega,Nat.mul_add_mod_self_right]
  ·simp [madeCells,show i * 2 < n * 2 by omega]
theorem writes_any (a G m base:Nat) (vs:List Value) (l:List Txt) (w:World) (ha:a≤10000) (hm:m≤200) (hvl:vs.length=m) (hy:Blk w G 42 vs) (hin:TxtsIn w base vs l m) (hby:∀ t ∈ l,∀ z ∈ t,isByte z) (hll:l.length=m) (hbase:base≤w.heap.size) :
  Calls Tryz.prog 182 #[.int .i64 (a:Int),.slice (some ⟨G,0,none⟩) m m] w fun e w'=>∃ P,e=.returned (.slice (some ⟨P,0,none⟩) m m)∧OwnPnds w' base (some ⟨P,0,none⟩) m m (writesP a l m)∧Below w.heap.size w w':=by
 obtain ⟨V0,hV0⟩:∃ V,V=madeCells #[.int .i64 0,.slice none 0 0] (m * 2):=⟨_,rfl⟩
 have hmk:(Instr.makeSlice 23 (.int .i64 (m:Int)) (.int .i64 (m:Int))).run Tryz.prog w=.ok (.slice (some ⟨w.heap.size,0,none⟩) m m) (w.alloc (.cells V0 114)):=by
  rw [hV0]
  exact make_pnds m (by omega) w
 have y:OwnPnds (w.alloc (.cells V0 114)) w.heap.size (some ⟨w.heap.size,0,none⟩) m m (someP a l m 0):=by
  rw [hV0]
  exact made_pnds a l m (by omega) w
 have hbel:Below w.heap.size w (w.alloc (.cells V0 114)):=(Below.refl _ _).alloc (Nat.le_refl _) _
 obtain ⟨w1,hW⟩:∃ x:World,x=w.alloc (.cells V0 114):=⟨_,rfl⟩
 rw [← hW] at hmk y hbel
 have Y:=Lh (y.lower hbase)
 have B:=Lh hbel
 have HY:=Lh hy
 have HIN:=Lh hin
 have HVL:=Lh hvl
 have HBY:=Lh (show ∀ k,k < m→∀ z ∈ l.getD k [],isByte z from fun k hk=>hby _ (by rw [gtD,geE (by rw [hll];exact hk)];exact List.getElem_mem _))
 obtain ⟨P,hP⟩:∃ P,P=w.heap.size:=⟨_,rfl⟩
 rw [← hP] at hmk Y
 have HP:=Lh (show w.heap.size≤P by rw [hP];exact Nat.le_refl _)
 clear y hbel hy hin hvl hby hll hbase hV0 hW hP
 go_enter Tryz.func182,Tryz.ntmps182
 go_wp2
 go_loopw [13,6,7] (fun i _ _ wr=>∃ k:Nat,k≤m∧i=.int .i64 k∧OwnPnds wr base (some ⟨P,0,none⟩) m m (someP a l m k)∧Below w.heap.size w wr) (fun i _ _ _=>m - (intOf i).toNat)
 case atStart=>exact ⟨0,Nat.zero_le _,rfl,Y.out,B.out⟩
 case round =>
  obtain ⟨k,hk,rfl,ho,hb⟩:=hrel
  by_cases hkm:k < m
  ·have hki:(k:Int) < (m:Int):=by omega
   have hwa:wrap64 ((a:Int) + (k:Int))=(a:Int) + (k:Int):=by unfold wrap64;omega
   obtain ⟨g,hg,hog⟩:=HIN.out k hkm
   have c0:=((HY.out.below hb HY.out.lt).cell k).trans hg
   obtain ⟨P',u,v,eP,hPb,p0,p1,f0,f1,hset⟩:=ho.setTxt hkm (HBY.out k hkm) (x:=(a:Int) + (k:Int)) (hog.below hb)
   injection eP with eP
   injection eP with eP
   subst eP
   rw [someP_step hkm] at hset
   have HS:=Lh hset
   have HB:=Lh ((hb.setCell (p:=⟨P,k * 2,none⟩) HP.out (.int .i64 ((a:Int) + (k:Int)))).setCell (p:=⟨P,k * 2 + 1,none⟩) HP.out (.slice (some ⟨g,0,none⟩) 32 32))
   clear ho hb hset hg hog hPb Y B
   go_wp2
   go_roundw
   case rel=>exact ⟨k + 1,by omega,by go_num,HS.out,HB.out⟩
   all_goals (try case measure=>simp [intOf];omega)
  ·obtain rfl:k=m:=by omega
   have HO:=Lh ho
   have HB:=Lh hb
   clear ho hb Y B
   go_wp2
   go_ret
   exact ⟨P,rfl,HO.out,HB.out⟩
def cpE (S:List Sec) (C:List Pnd) (at_ wd:Int) (b:Txt):Int :=
 if cellE S C at_ wd=0 then (if 24 * wd < (b.length:Int) then 4 else if busyTo S C at_ (2 * wd.toNat)=true then 60 else if countTo (optsOf S C at_ (2 * wd.toNat)) (2 * wd.toNat)=4294967295 then 9 else 0) else cellE S C at_ wd
def cpT (S:List Sec) (C:List Pnd) (at_ wd:Int) (b:Txt):List Txt:=textsOf (countTo (optsOf S C at_ (2 * wd.toNat)) (2 * wd.toNat) + 1) b wd.toNat
def cpL (S:List Sec) (C:List Pnd) (at_ wd:Int) (b:Txt):List Pnd :=
 if cpE S C at_ wd b=0 then writesP (at_ + hF wd.toNat (optsOf S C at_ (2 * wd.toNat)) * wd) (cpT S C at_ wd b) wd.toNat else []
def PlanOut (w:World) (L:List Pnd) (E:Int) (e:Ending) (w':World):Prop :=
 ∃ A c,e=.returned (.tuple #[.slice A L.length c,.int .i64 E])∧OwnPnds w' w.heap.size A L.length c L∧Below w.heap.size w w'
theorem PlanOut.none (w:World) (L:List Pnd) (E:Int) (w':World) (hL:L=[]) (hb:Below w.heap.size w w'):PlanOut w L E (.returned (.tuple #[.slice none 0 0,.int .i64 E])) w':=by
 subst hL
 exact ⟨Option.none,0,rfl,OwnPnds.nil _ _,hb⟩
theorem hF_two (m:Nat) (l:List (Option Txt)):hF m l=0∨hF m l=1:=by
 unfold hF
 split
 ·exact .inl rfl
 ·exact .inr rfl
theorem textsOf_byte {v:Int} {b:Txt} {m:Nat} (hb:∀ z ∈ b,isByte z):∀ t ∈ textsOf v b m,∀ z ∈ t,isByte z:=by
 intro t ht z hz
 unfold textsOf at ht
 obtain ⟨k,_,rfl⟩:=List.mem_map.1 ht
 exact partT_byte _ _ (fun y hy=>hb y (List.mem_of_mem_drop (List.mem_of_mem_take hy))) z hz
theorem plan_any (A:Option Addr) (n c:Nat) (A':Option Addr) (n' c':Nat) (S:List Sec) (C:List Pnd) (at_ wd:Int) (Ab:Option Addr) (nb cb:Nat) (b:Txt) (w:World) (hq:Dsk w A n c A' n' c' S C) (hs:SmallD S C) (hb:Arg w .u8 Ab nb cb b) (hby:∀ z ∈ b,isByte z) (hnb:nb≤1000) :
  Calls Tryz.prog 155 #[diskV A n c A' n' c',.int .i64 at_,.int .i64 wd,.slice Ab nb cb] w (PlanOut w (cpL S C at_ wd b) (cpE S C at_ wd b)):=by
 have hbel:Below w.heap.size w (w.alloc (.cells #[.slice A n c,.slice A' n' c'] 25)):=(Below.refl _ _).alloc (Nat.le_refl _) _
 have x:=DBox.new hq
 have hb1:=hb.below hbel
 obtain ⟨w1,hW⟩:∃ x:World,x=w.alloc (.cells #[.slice A n c,.slice A' n' c'] 25):=⟨_,rfl⟩
 rw [← hW] at hbel x hb1
 obtain ⟨c0,c1⟩:=x.cells
 have B:=Lh hbel
 have X:=Lh x
 have HB:=Lh hb1
 have hbl:=hb.len
 by_cases hE:cellE S C at_ wd=0
 ·obtain ⟨hm,a,m,rfl,rfl,hm1,hm4,han⟩:=cellE_zero hE
  have K:=Lh (sectors_ok A n c A' n' c' S C a m w1 x.dsk hs hm hm1 hm4 han)
  have hsm:=hs.secs
  have BZ:=Lh (fun wx (hx:Below w1.heap.size w1 wx)=>busy_any A n c A' n' c' S C a (2 * m) wx (x.below hx).dsk hs (by omega) (by omega))
  have hcp:cpE S C a m b=if 24 * (m:Int) < (b.length:Int) then 4 else if busyTo S C a (2 * m)=true then 60 else if countTo (optsOf S C a (2 * m)) (2 * m)=4294967295 then 9 else 0:=by unfold cpE;rw [if_pos hE,Int.toNat_natCast]
  have hcl:cpE S C a m b≠0→cpL S C a m b=[]:=fun h=>if_neg h
  have hcl0:cpE S C a m b=0→cpL S C a m b=writesP ((a:Int) + hF m (optsOf S C a (2 * m)) * (m:Int)) (textsOf (countTo (optsOf S C a (2 * m)) (2 * m) + 1) b m) m:=fun h=>by unfold cpL cpT;rw [if_pos h,Int.toNat_natCast]
  have hct:0≤countTo (optsOf S C a (2 * m)) (2 * m)∧countTo (optsOf S C a (2 * m)) (2 * m) < 4294967296:=count_bounds (fun i hi T hT=>by
   rw [optsOf_get S C a hi] at hT
   unfold optAt at hT
   split at hT
   ·rename_i h0
    injection hT with hT
    subst hT
    obtain ⟨h32,hbb⟩:=rd_good h0 hq.secs.byte hq.pnds.byte
    exact ver_bounds (by omega) hbb
   ·cases hT) _ (Nat.le_refl _)
  obtain ⟨l,hl⟩:∃ l,l=optsOf S C a (2 * m):=⟨_,rfl⟩
  rw [← hl] at K hcp hcl0 hct
  obtain ⟨q,hqb⟩:∃ q,q=busyTo S C a (2 * m):=⟨_,rfl⟩
  rw [← hqb] at BZ hcp
  have CT:=Lh (fun g wx (h:Opts wx (some ⟨g,0,none⟩) (2 * m) (2 * m) l)=>count_any g 0 (2 * m) (2 * m) l wx h (by omega))
  have HE:=Lh (fun g wx (h:Opts wx (some ⟨g,0,none⟩) (2 * m) (2 * m) l)=>held_any g 0 (2 * m) (2 * m) m l wx h rfl hm1 (by omega))
  obtain ⟨ct,hcte⟩:∃ v,v=countTo l (2 * m):=⟨_,rfl⟩
  rw [← hcte] at hcp hcl0 hct CT
  obtain ⟨E,hEE⟩:∃ E,E=cpE S C a m b:=⟨_,rfl⟩
  obtain ⟨R,hRR⟩:∃ R,R=cpL S C a m b:=⟨_,rfl⟩
  rw [← hEE] at hcp hcl hcl0 ⊢
  rw [← hRR] at hcl hcl0 ⊢
  rw [hbl] at hcp
  have hbp:Arg w .u8 Ab nb cb b:=hb
  have HBP:=Lh hbp
  have HBY:=Lh hby
  have HM4:=Lh hm4
  have HA:=Lh (show a≤300 by omega)
  have hwm:wrap64 ((m:Int) * 24)=(m:Int) * 24:=by unfold wrap64;omega
  clear hbel x hq hs hb hb1 hbp hE hm han hl hcte hEE hRR hby hbl hqb
  by_cases hmany:24 * (m:Int) < (nb:Int)
  ·rw [if_pos hmany] at hcp
   have hR:=hcl (by rw [hcp];decide)
   have HR:=Lh hR
   subst hcp
   have hmn:(m:Int) * 24 < (nb:Int):=by omega
   clear hcl hcl0 hR hmany hct
   go_enter Tryz.func155,Tryz.ntmps155
   go_wp2_with fail
   rw [← hW]
   refine K.out.mono ?_
   rintro e w2 ⟨g,rfl,ho,hb⟩
   have B2:=Lh (B.out.trans (hb.mono B.out.size))
   have B12:=Lh hb
   obtain ⟨c0,c1⟩:=(X.out.below hb).cells
   have HO:=Lh ho
   clear hb ho K hW B
   go_wp2
   go_ret2
   exact PlanOut.none _ _ _ _ HR.out B2.out
  ·rw [if_neg hmany] at hcp
   have hmn:¬ (m:Int) * 24 < (nb:Int):=by omega
   clear hmany
   cases q with
   | true =>
    rw [if_pos rfl] at hcp
    have hR:=hcl (by rw [hcp];decide)
    have HR:=Lh hR
    subst hcp
    clear hcl hcl0 hR hct
    go_enter Tryz.func155,Tryz.ntmps155
    go_wp2_with fail
    rw [← hW]
    refine K.out.mono ?_
    rintro e w2 ⟨g,rfl,ho,hb⟩
    have B2:=Lh (B.out.trans (hb.mono B.out.size))
    have B12:=Lh hb
    obtain ⟨c0,c1⟩:=(X.out.below hb).cells
    have HO:=Lh ho
    clear hb ho K hW B
    go_wp2_with fail
    refine (BZ.out w2 B12.out).mono ?_
    rintro e w3 ⟨rfl,hb⟩
    have B3:=Lh (B2.out.trans (hb.mono B2.out.size))
    have HO3:=Lh (HO.out.below hb)
    clear hb c0 c1 BZ
    go_wp2
    go_ret2
    exact PlanOut.none _ _ _ _ HR.out B3.out
   | false =>
    rw [if_neg (by decide)] at hcp
    by_cases hfull:ct=4294967295
    ·rw [if_pos hfull] at hcp
     have hR:=hcl (by rw [hcp];decide)
     have HR:=Lh hR
     subst hcp
     have hf2:(ct == 4294967295)=true:=beq_iff_eq.2 hfull
     clear hcl hcl0 hR hct hfull
     go_enter Tryz.func155,Tryz.ntmps155
     go_wp2_with fail
     rw [← hW]
     refine K.out.mono ?_
     rintro e w2 ⟨g,rfl,ho,hb⟩
     have B2:=Lh (B.out.trans (hb.mono B.out.size))
     have B12:=Lh hb
     obtain ⟨c0,c1⟩:=(X.out.below hb).cells
     have HO:=Lh ho
     clear hb ho K hW B
     go_wp2_with fail
     refine (BZ.out w2 B12.out).mono ?_
     rintro e w3 ⟨rfl,hb⟩
     have B3:=Lh (B2.out.trans (hb.mono B2.out.size))
     have HO3:=Lh (HO.out.below hb)
     clear hb c0 c1 BZ
     go_wp2_with fail
     refine (CT.out g w3 HO3.out).mono ?_
     rintro e w4 ⟨rfl,hb⟩
     have B4:=Lh (B3.out.trans (hb.mono B3.out.size))
     have HO4:=Lh (HO3.out.below hb)
     clear hb CT HO3
     go_wp2
     go_ret2
     exact PlanOut.none _ _ _ _ HR.out B4.out
    ·rw [if_neg hfull] at hcp
     have hR:=hcl0 hcp
     subst hcp
     have hf2:(ct == 4294967295)=false:=beq_eq_false_iff_ne.2 hfull
     have hc0:=hct.1
     have hc1:ct + 1 < 4294967296:=by omega
     have HCB:=Lh (show 0≤ct + 1∧ct + 1 < 4294967296 by omega)
     have ew:IntKind.u32.wrap (ct + 1)=ct + 1:=wraps_u32 _ (by omega) (by omega)
     have hfree:=hF_two m l
     obtain ⟨fr,hfr⟩:∃ f,f=hF m l:=⟨_,rfl⟩
     rw [← hfr] at HE hR hfree
     clear hcl hcl0 hct hfull hfr
     rcases hfree with rfl | rfl
     ·skip
      have HR:=Lh (show R=writesP ((a:Nat):Int) (textsOf (ct + 1) b m) m by rw [hR];congr 1;omega)
      clear hR
      have hm4':=HM4.out
      have ha':=HA.out
      go_enter Tryz.func155,Tryz.ntmps155
      go_wp2_with fail
      rw [← hW]
      refine K.out.mono ?_
      rintro e w2 ⟨g,rfl,ho,hb⟩
      have B2:=Lh (B.out.trans (hb.mono B.out.size))
      have B12:=Lh hb
      obtain ⟨c0,c1⟩:=(X.out.below hb).cells
      have HO:=Lh ho
      clear hb ho K hW B
      go_wp2_with fail
      refine (BZ.out w2 B12.out).mono ?_
      rintro e w3 ⟨rfl,hb⟩
      have B3:=Lh (B2.out.trans (hb.mono B2.out.size))
      have HO3:=Lh (HO.out.below hb)
      clear hb c0 c1 BZ
      go_wp2_with fail
      refine (CT.out g w3 HO3.out).mono ?_
      rintro e w4 ⟨rfl,hb⟩
      have B4:=Lh (B3.out.trans (hb.mono B3.out.size))
      have HO4:=Lh (HO3.out.below hb)
      clear hb CT HO3
      go_wp2_with fail
      refine (HE.out g w4 HO4.out).mono ?_
      rintro e w5 ⟨A5,c5,rfl,hown,hb⟩
      have B5:=Lh ((B4.out.trans (hb.mono B4.out.size)).alloc (B4.out.trans (hb.mono B4.out.size)).size (.cells #[.int .u32 (hV m l),.slice A5 (hB m l).length c5] 209))
      obtain ⟨v5,hv5⟩:∃ v,v=hV m l:=⟨_,rfl⟩
      obtain ⟨n5,hn5⟩:∃ v,v=(hB m l).length:=⟨_,rfl⟩
      rw [← hv5,← hn5] at B5 ⊢
      clear hown hb HO4 HE hv5 hn5
      obtain ⟨w6,h6⟩:∃ x:World,x=w5.alloc (.cells #[.int .u32 v5,.slice A5 n5 c5] 209):=⟨_,rfl⟩
      rw [← h6] at B5
      have y:=Blk.new w6 209 [.int .u32 (ct + 1),.slice Ab nb cb]
      have B6:=Lh (B5.out.alloc B5.out.size (.cells #[.int .u32 (ct + 1),.slice Ab nb cb] 209))
      have p0:=y.cell 0
      have p1:=y.cell 1
      simp only [gcZ,gcS] at p0 p1
      rw [h6] at p0 p1 B6
      clear y
      go_wp2_with fail
      refine (texts_any (ct + 1) HCB.out Ab nb cb b m (by omega) _ (HBP.out.below B6.out) (by omega)).mono ?_
      rintro e w7 ⟨G,vs,rfl,hG,hvl,hy,hin,hb7⟩
      have B7:=Lh (B6.out.trans (hb7.mono B6.out.size))
      have WR:=Lh (writes_any (a:Nat) G m w.heap.size vs (textsOf (ct + 1) b m) w7 (by omega) (by omega) hvl hy (fun i hi=>by
       obtain ⟨g9,e9,o9⟩:=hin i hi
       exact ⟨g9,e9,o9.lower B6.out.size⟩) (textsOf_byte HBY.out) (textsOf_length _ _ _) B7.out.size)
      clear hG hvl hy hin hb7 p0 p1
      go_wp2_with fail
      refine WR.out.mono ?_
      rintro e w8 ⟨P,rfl,hown,hb8⟩
      have B8:=Lh (B7.out.trans (hb8.mono B7.out.size))
      have O8:=Lh hown
      clear hown hb8 WR
      go_wp2
      go_ret2
      have hlen:R.length=m:=by rw [HR.out];exact someP_len _ _ _ _
      refine ⟨some ⟨P,0,none⟩,m,by rw [hlen];rfl,?_,B8.out⟩
      rw [hlen,HR.out]
      exact O8.out
     ·skip
      have HR:=Lh (show R=writesP ((a + m:Nat):Int) (textsOf (ct + 1) b m) m by rw [hR];congr 1;omega)
      clear hR
      have hm4':=HM4.out
      have ha':=HA.out
      have hwam:wrap64 ((a:Int) + (m:Int))=(a:Int) + (m:Int):=by unfold wrap64;omega
      go_enter Tryz.func155,Tryz.ntmps155
      go_wp2_with fail
      rw [← hW]
      refine K.out.mono ?_
      rintro e w2 ⟨g,rfl,ho,hb⟩
      have B2:=Lh (B.out.trans (hb.mono B.out.size))
      have B12:=Lh hb
      obtain ⟨c0,c1⟩:=(X.out.below hb).cells
      have HO:=Lh ho
      clear hb ho K hW B
      go_wp2_with fail
      refine (BZ.out w2 B12.out).mono ?_
      rintro e w3 ⟨rfl,hb⟩
      have B3:=Lh (B2.out.trans (hb.mono B2.out.size))
      have HO3:=Lh (HO.out.below hb)
      clear hb c0 c1 BZ
      go_wp2_with fail
      refine (CT.out g w3 HO3.out).mono ?_
      rintro e w4 ⟨rfl,hb⟩
      have B4:=Lh (B3.out.trans (hb.mono B3.out.size))
      have HO4:=Lh (HO3.out.below hb)
      clear hb CT HO3
      go_wp2_with fail
      refine (HE.out g w4 HO4.out).mono ?_
      rintro e w5 ⟨A5,c5,rfl,hown,hb⟩
      have B5:=Lh ((B4.out.trans (hb.mono B4.out.size)).alloc (B4.out.trans (hb.mono B4.out.size)).size (.cells #[.int .u32 (hV m l),.slice A5 (hB m l).length c5] 209))
      obtain ⟨v5,hv5⟩:∃ v,v=hV m l:=⟨_,rfl⟩
      obtain ⟨n5,hn5⟩:∃ v,v=(hB m l).length:=⟨_,rfl⟩
      rw [← hv5,← hn5] at B5 ⊢
      clear hown hb HO4 HE hv5 hn5
      obtain ⟨w6,h6⟩:∃ x:World,x=w5.alloc (.cells #[.int .u32 v5,.slice A5 n5 c5] 209):=⟨_,rfl⟩
      rw [← h6] at B5
      have y:=Blk.new w6 209 [.int .u32 (ct + 1),.slice Ab nb cb]
      have B6:=Lh (B5.out.alloc B5.out.size (.cells #[.int .u32 (ct + 1),.slice Ab nb cb] 209))
      have p0:=y.cell 0
      have p1:=y.cell 1
      simp only [gcZ,gcS] at p0 p1
      rw [h6] at p0 p1 B6
      clear y
      go_wp2_with fail
      refine (texts_any (ct + 1) HCB.out Ab nb cb b m (by omega) _ (HBP.out.below B6.out) (by omega)).mono ?_
      rintro e w7 ⟨G,vs,rfl,hG,hvl,hy,hin,hb7⟩
      have B7:=Lh (B6.out.trans (hb7.mono B6.out.size))
      have WR:=Lh (writes_any (a + m:Nat) G m w.heap.size vs (textsOf (ct + 1) b m) w7 (by omega) (by omega) hvl hy (fun i hi=>by
       obtain ⟨g9,e9,o9⟩:=hin i hi
       exact ⟨g9,e9,o9.lower B6.out.size⟩) (textsOf_byte HBY.out) (textsOf_length _ _ _) B7.out.size)
      clear hG hvl hy hin hb7 p0 p1
      rw [show ((a + m:Nat):Int)=(a:Int) + (m:Int) from by omega] at WR
      go_wp2_with fail
      refine WR.out.mono ?_
      rintro e w8 ⟨P,rfl,hown,hb8⟩
      have B8:=Lh (B7.out.trans (hb8.mono B7.out.size))
      have O8:=Lh hown
      clear hown hb8 WR
      go_wp2
      go_ret2
      have hlen:R.length=m:=by rw [HR.out];exact someP_len _ _ _ _
      refine ⟨some ⟨P,0,none⟩,m,by rw [hlen];rfl,?_,B8.out⟩
      rw [hlen,HR.out]
      rw [show ((a + m:Nat):Int)=(a:Int) + (m:Int) from by omega]
      exact O8.out
 ·have hcr:cpE S C at_ wd b=cellE S C at_ wd:=by unfold cpE;rw [if_neg hE]
  have hR:cpL S C at_ wd b=[]:=by unfold cpL;rw [hcr,if_neg hE]
  have K:=Lh (sectors_no A n c A' n' c' S C at_ wd w1 x.dsk hs hE)
  rw [hcr]
  obtain ⟨R,hRR⟩:∃ R,R=cpL S C at_ wd b:=⟨_,rfl⟩
  rw [← hRR] at hR ⊢
  obtain ⟨E,hEE⟩:∃ E,E=cellE S C at_ wd:=⟨_,rfl⟩
  rw [← hEE] at K hE ⊢
  have hne:(E != 0)=true:=bne_iff_ne.2 hE
  have HR:=Lh hR
  clear hbel x hq hs hE hcr hEE hRR hR hb hb1 hby hbl
  go_enter Tryz.func155,Tryz.ntmps155
  go_wp2_with fail
  rw [← hW]
  refine K.out.mono ?_
  rintro e w2 ⟨rfl,hb⟩
  have B2:=Lh (B.out.trans (hb.mono B.out.size))
  clear hb hW c0 c1 K
  go_wp2
  go_ret2
  exact PlanOut.none _ _ _ _ HR.out B2.out
def cwE (S:List Sec) (C:List Pnd) (at_ wd:Int) (b:Txt):Int:=if cpE S C at_ wd b=0 then (if 64 < C.length + (cpL S C at_ wd b).length then 9 else 0) else cpE S C at_ wd b
theorem cpE_zero {S:List Sec} {C:List Pnd} {at_ wd:Int} {b:Txt} (h:cpE S C at_ wd b=0):cellE S C at_ wd=0∧(b.length:Int)≤24 * wd∧busyTo S C at_ (2 * wd.toNat)=false∧countTo (optsOf S C at_ (2 * wd.toNat)) (2 * wd.toNat)≠4294967295:=by
 unfold cpE at h
 split at h
 ·rename_i h1
  split at h
  ·cases h
  ·rename_i h2
   split at h
   ·cases h
   ·rename_i h3
    split at h
    ·cases h
    ·rename_i h4
     exact ⟨h1,by omega,by simpa using h3,h4⟩
 ·rename_i h1;exact absurd h h1
theorem cpL_good {S:List Sec} {C:List Pnd} {at_ wd:Int} {b:Txt} (h:cpE S C at_ wd b=0) (hb:∀ z ∈ b,isByte z):(cpL S C at_ wd b).length=wd.toNat∧1≤wd.toNat∧wd.toNat≤4∧mayD S C=true ∧
  ∀ p ∈ cpL S C at_ wd b,(0≤p.1∧p.1 < (S.length:Int)∧p.2.length=32)∧∀ z ∈ p.2,isByte z:=by
 obtain ⟨hE,h24,_,_⟩:=cpE_zero h
 obtain ⟨hm,a,m,rfl,rfl,hm1,hm4,han⟩:=cellE_zero hE
 have hL:cpL S C a m b=writesP ((a:Int) + hF m (optsOf S C a (2 * m)) * (m:Int)) (cpT S C a m b) m:=by unfold cpL;rw [if_pos h,Int.toNat_natCast]
 rw [hL,Int.toNat_natCast]
 refine ⟨someP_len _ _ _ _,hm1,hm4,hm,fun p hp=>?_⟩
 unfold writesP someP at hp
 obtain ⟨i,hi,rfl⟩:=List.mem_map.1 hp
 have hi:=List.mem_range.1 hi
 rw [if_pos hi]
 have hT:(cpT S C a m b).getD i []=partT (countTo (optsOf S C a (2 * m)) (2 * m) + 1) i (chunk b i):=by
  unfold cpT
  rw [Int.toNat_natCast]
  exact textsOf_get _ _ hi
 dsimp only
 rw [hT]
 have hf:=hF_two m (optsOf S C a (2 * m))
 refine ⟨⟨?_,?_,partT_length _ _ (by unfold chunk;rw [List.length_take];omega)⟩,partT_byte _ _ (fun y hy=>hb y (List.mem_of_mem_drop (List.mem_of_mem_take hy)))⟩
 ·rcases hf with h | h <;> rw [h] <;> omega
 ·rcases hf with h | h <;> rw [h] <;> omega
theorem may_more {S:List Sec} {C L:List Pnd} (hm:mayD S C=true) (hL:∀ p ∈ L,(0≤p.1∧p.1 < (S.length:Int)∧p.2.length=32)∧∀ z ∈ p.2,isByte z) {k:Nat} (hk:k≤L.length) (h64:C.length + k≤64):mayD S (C ++ L.take k)=true:=by
 have h:=(mayD_iff _ _).1 hm
 rw [mayD_iff]
 refine ⟨⟨h.1.1,h.1.2.1,by rw [List.length_append,List.length_take];omega⟩,h.2.1,fun p hp=>?_⟩
 rcases List.mem_append.1 hp with hp | hp
 ·exact h.2.2 p hp
 ·exact (hL p (List.mem_of_mem_take hp)).1
theorem DiskOut.as {w:World} {S S':List Sec} {C C':List Pnd} {E E':Int} {e:Ending} {w':World} (x:DiskOut w S C E e w') {n n':Nat} (hS:S=S') (hC:C=C') (hE:E=E') (hn:S'.length=n) (hn':C'.length=n') :
  ∃ A c A' c',e=.returned (.tuple #[diskV A n c A' n' c',.int .i64 E'])∧OwnDsk w' w.heap.size A n c A' n' c' S' C'∧Below w.heap.size w w':=by
 subst hS;subst hC;subst hE;subst hn;subst hn';exact x
end Go.Proofs.YtifgcfepbenpjaaGreat
