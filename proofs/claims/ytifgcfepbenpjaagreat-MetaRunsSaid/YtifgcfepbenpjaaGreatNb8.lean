/- Texts of layers 1 to 12, joined. -/
import Derived.Test.YtifgcfepbenpjaaGreatNb5
import Derived.Test.YtifgcfepbenpjaaGreatNb7
import Derived.Deep.RegionHeld3
import Derived.StillTailTactics
import Derived.Lib.EndianBits
import Derived.Deep.RegionWith
import Derived.WalkLawsBesides
import Derived.Defers
import Derived.Recover
import Derived.Laws.Pointers
set_option maxRecDepth 100000
set_option maxHeartbeats 12800000
set_option linter.unusedVariables false
namespace Go.Proofs.YtifgcfepbenpjaaGreat
def sz4:List Int:=[4,1,1,2]
def rowT (v n m:Int):Txt:=rowTo [v,n,m,0] sz4 4
def partT (v n:Int) (b:Txt):Txt:=rowT v n b.length ++ b ++ List.replicate (24 - b.length) 0
def nums4 (t:Txt):List Int:=numsTo (t.take 8) sz4 4
def verOf (t:Txt):Int:=val (t.take 4)
def manyOf (t:Txt):Int:=t.getD 5 0
theorem okB_sz4:okB sz4=true:=by decide
theorem at_sz4:atTo sz4 4=8:=by decide
theorem rowT_length (v n m:Int):(rowT v n m).length=8:=by unfold rowT;rw [rowTo_length];rfl
theorem rowT_byte (v n m:Int):∀ z ∈ rowT v n m,isByte z:=rowTo_byte _ _ _
theorem partT_length (v n:Int) {b:Txt} (hb:b.length≤24):(partT v n b).length=32:=by
 unfold partT
 simp only [List.length_append,rowT_length,List.length_replicate]
 omega
theorem partT_byte (v n:Int) {b:Txt} (hb:∀ z ∈ b,isByte z):∀ z ∈ partT v n b,isByte z:=by
 intro z hz
 unfold partT at hz
 simp only [List.mem_append] at hz
 rcases hz with (hz | hz) | hz
 ·exact rowT_byte _ _ _ z hz
 ·exact hb z hz
 ·rw [List.eq_of_mem_replicate hz];exact ⟨by decide,by decide⟩
theorem rowT_eq (v n m:Int):rowT v n m=digs 4 v ++ [n % 256,m % 256,0,0]:=by
 have h:rowT v n m=((([] ++ digs 4 v) ++ digs 1 n) ++ digs 1 m) ++ digs 2 0:=rfl
 rw [h]
 simp [digs]
theorem fits4 {v n m:Int} (hv:0≤v∧v < 4294967296) (hn:0≤n∧n < 256) (hm:0≤m∧m < 256):fitsTo [v,n,m,0] sz4 4=true:=by
 have h1:v / 256 ^ 4=0:=Int.ediv_eq_zero_of_lt hv.1 (by rw [show (256:Int) ^ 4=4294967296 by decide];exact hv.2)
 have h2:n / 256 ^ 1=0:=Int.ediv_eq_zero_of_lt hn.1 (by omega)
 have h3:m / 256 ^ 1=0:=Int.ediv_eq_zero_of_lt hm.1 (by omega)
 show (((true && decide (v / 256 ^ 4=0)) && decide (n / 256 ^ 1=0)) && decide (m / 256 ^ 1=0)) && decide ((0:Int) / 256 ^ 2=0)=true
 rw [h1,h2,h3]
 decide
theorem nums4_eq (t:Txt) (ht:8≤t.length):nums4 t=[verOf t,val ((t.drop 4).take 1),val ((t.drop 5).take 1),val ((t.drop 6).take 2)]:=by
 have h:nums4 t=((([] ++ [val (((t.take 8).drop 0).take 4)]) ++ [val (((t.take 8).drop 4).take 1)]) ++ [val (((t.take 8).drop 5).take 1)]) ++ [val (((t.take 8).drop 6).take 2)]:=rfl
 rw [h]
 simp only [List.drop_take,List.take_take,List.drop_zero,List.nil_append,List.cons_append]
 rfl
theorem val_one {t:Txt} {k:Nat} (hk:k < t.length):val ((t.drop k).take 1)=t.getD k 0:=by
 rw [gtD,geE hk,List.drop_eq_getElem_cons hk,List.take_succ_cons,List.take_zero]
 show 0 * 256 + t[k]=t[k]
 rw [Int.zero_mul,Int.zero_add]
theorem ver_bounds {t:Txt} (ht:4≤t.length) (hb:∀ z ∈ t,isByte z):0≤verOf t∧verOf t < 4294967296:=by
 have h:=val_bounds (t.take 4) fun z hz=>hb z (List.mem_of_mem_take hz)
 rw [List.length_take,Nat.min_eq_left ht] at h
 have h4:(256:Int) ^ 4=4294967296:=by decide
 unfold verOf
 omega
theorem byte_getD {t:Txt} (hb:∀ z ∈ t,isByte z) (k:Nat):isByte (t.getD k 0):=by
 rcases Nat.lt_or_ge k t.length with h | h
 ·rw [gtD,geE h]
  exact hb _ (List.getElem_mem h)
 ·rw [gtD,List.getElem?_eq_none h]
  exact ⟨by decide,by decide⟩
def partB (T:Txt):Txt:=(T.drop 8).take (manyOf T).toNat
def partOk (n:Int) (T:Txt):Bool:=decide (verOf T≠0) && decide (manyOf T≤24) && decide (T=partT (verOf T) n (partB T))
theorem partB_length {T:Txt} (h:T.length=32) (hb:∀ z ∈ T,isByte z) (hm:manyOf T≤24):((partB T).length:Int)=manyOf T:=by
 have:=byte_getD hb 5
 unfold isByte at this
 have e:manyOf T=T.getD 5 0:=rfl
 unfold partB
 rw [List.length_take,List.length_drop]
 omega
theorem partB_byte {T:Txt} (hb:∀ z ∈ T,isByte z):∀ z ∈ partB T,isByte z:=fun z hz=>hb z (List.mem_of_mem_drop (List.mem_of_mem_take hz))
end Go.Proofs.YtifgcfepbenpjaaGreat
namespace Go.Proofs.YtifgcfepbenpjaaGreat
open Go.RowKit
theorem sizes_any (w:World):Calls Tryz.prog 211 #[] w fun e w'=>∃ g,e=.returned (.slice (some ⟨g,0,none⟩) 4 4)∧Arg w' .i64 (some ⟨g,0,none⟩) 4 4 sz4∧Below w.heap.size w w':=by
 have hml:4≤maxLen:=by decide
 have HA:=Lh (show Arg (w.alloc (.cells #[.int .i64 4,.int .i64 1,.int .i64 1,.int .i64 2] 3)) .i64 (some ⟨w.heap.size,0,none⟩) 4 4 sz4 from ⟨lit_row w 3 .i64 sz4 _ _ _ rfl rfl (by simp),rfl,Nat.le_refl _,hml⟩)
 go_enter Tryz.func211,Tryz.ntmps211
 go_wp2
 go_ret
 exact ⟨_,rfl,HA.out,(Below.refl _ _).alloc (Nat.le_refl _) _⟩
abbrev rowV (v n m:Int):Value:=.agg #[.int .u32 v,.int .i64 n,.int .i64 m]
theorem nums_row (w:World) (v n m:Int) (b B:Nat) (hb:b=w.heap.size) (hB:w.heap.size < B):Seq (w.alloc (.cells #[.int .u64 v,.int .u64 n,.int .u64 m,.int .u64 0] 27)) B (some ⟨b,0,none⟩) (ints .u64 [v,n,m,0]):=lit_row w 27 .u64 [v,n,m,0] _ _ _ rfl hb hB
theorem bytes_any (v n m:Int) (hv:0≤v∧v < 4294967296) (hn:0≤n∧n < 256) (hm:0≤m∧m < 256) (w:World) :
  Calls Tryz.prog 212 #[rowV v n m] w fun e w'=>∃ A c,e=.returned (.slice A 8 c)∧w'.ownsRow w.heap.size 5 1 (.slice A 8 c) 8 (ints .u8 (rowT v n m))∧Below w.heap.size w w':=by
 have x:=Blk.new w 288 [.int .u32 v,.int .i64 n,.int .i64 m]
 have hbel:Below w.heap.size w (w.alloc (.cells #[.int .u32 v,.int .i64 n,.int .i64 m] 288)):=(Below.refl _ _).alloc (Nat.le_refl _) _
 have FT:=Lh (show fitsTo [v,n,m,0] sz4 sz4.length=true from fits4 hv hn hm)
 have W1:=Lh (show ∀ z ∈ [v,n,m,(0:Int)],isWord z by
  intro z hz
  simp only [List.mem_cons,List.not_mem_nil,or_false] at hz
  unfold isWord
  rcases hz with rfl | rfl | rfl | rfl <;> omega)
 have X:=Lh x
 have BL:=Lh hbel
 have hv0:=hv.1
 have hv1:=hv.2
 have hn0:=hn.1
 have hn1:=hn.2
 have hm0:=hm.1
 have hm1:=hm.2
 have e1:IntKind.u64.wrap v=v:=wraps_u64 v hv0 (by omega)
 have e2:IntKind.u64.wrap n=n:=wraps_u64 n hn0 (by omega)
 have e3:IntKind.u64.wrap m=m:=wraps_u64 m hm0 (by omega)
 clear x hbel hv hn hm
 go_enter Tryz.func212,Tryz.ntmps212
 go_upto_region 1 with fail
 obtain ⟨v1,hW⟩:∃ x:World,x=w.alloc (.cells #[.int .u32 v,.int .i64 n,.int .i64 m] 288):=⟨_,rfl⟩
 rw [← hW] at X BL ⊢
 have hlt:w.heap.size < v1.heap.size:=X.out.lt
 clear hW
 have hcur:Below v1.heap.size v1 v1.drew:=below_drewN (Below.refl _ _) 1
 have keepX:∀ wx,Below v1.heap.size v1 wx→wx.cell? ⟨w.heap.size,0,none⟩=some (.int .u32 v)∧wx.cell? ⟨w.heap.size,1,none⟩=some (.int .i64 n)∧wx.cell? ⟨w.heap.size,2,none⟩=some (.int .i64 m):=fun wx hx=>(fun (b:Blk wx w.heap.size 288 [.int .u32 v,.int .i64 n,.int .i64 m])=>⟨b.cell 0,b.cell 1,b.cell 2⟩) (X.out.below hx hlt)
 have hkX:=keepX _ hcur
 go_region_held3 (fun w'=>w'.cell? ⟨w.heap.size,0,none⟩=some (.int .u32 v)∧w'.cell? ⟨w.heap.size,1,none⟩=some (.int .i64 n)∧w'.cell? ⟨w.heap.size,2,none⟩=some (.int .i64 m))
  (first | exact hkX | exact keepX _ (hcur.alloc hcur.size _) | exact keepX _ (below_drewN ((Below.refl _ _).alloc (Nat.le_refl _) _) 1) | go_keep)
  (first
   | (go_at_call 211;with_reducible refine (sizes_any v1.drew).mono ?_;rintro e wS ⟨gS,rfl,hAS,hbS⟩;have hcur:=hcur.trans (hbS.mono hcur.size);have hkX:=keepX _ hcur)
   | (go_at_call 211;have hL:=nums_row v1 v n m v1.heap.size (v1.heap.size + 1) rfl (Nat.lt_succ_self _);have hcur:Below v1.heap.size v1 (v1.alloc (.cells #[.int .u64 v,.int .u64 n,.int .u64 m,.int .u64 0] 27)).drew:=below_drewN ((Below.refl _ _).alloc (Nat.le_refl _) _) 1;have hL:Seq (v1.alloc (.cells #[.int .u64 v,.int .u64 n,.int .u64 m,.int .u64 0] 27)).drew (v1.heap.size + 1) (some ⟨v1.heap.size,0,none⟩) (ints .u64 [v,n,m,0]):=hL.keep fun _ _=>rfl;with_reducible refine (sizes_any _).mono ?_;rintro e wS ⟨gS,rfl,hAS,hbS⟩;have hL:=(hL.below (hbS.mono (by simp))).more (B':=wS.heap.size) (Nat.le_trans (by simp) hbS.size);have hcur:=hcur.trans (hbS.mono hcur.size);have hkX:=keepX _ hcur)
   | (go_at_call 74;with_reducible refine (write_ok (some ⟨v1.heap.size,0,none⟩) (some ⟨gS,0,none⟩) 4 4 4 4 [v,n,m,0] sz4 _ hAS.seq rfl okB_sz4 hL rfl rfl W1.out).mono ?_;intro e w2 hout;have hM:=hcur.size;obtain ⟨A2,c2,rfl,hown,hb⟩:=(WroteOut.yes hout FT.out).len (zs':=rowT v n m) (n:=8) rfl (rowT_length _ _ _);have hcur:=hcur.trans (hb.mono hcur.size);have hkX:=keepX _ hcur)
   | (go_at_call 74;have hL:=nums_row wS v n m wS.heap.size (wS.heap.size + 1) rfl (Nat.lt_succ_self _);have hL:=hL.more (B':=(wS.alloc (.cells #[.int .u64 v,.int .u64 n,.int .u64 m,.int .u64 0] 27)).heap.size) (by simp);have hAS:=hAS.below ((Below.refl wS.heap.size wS).alloc (Nat.le_refl _) (.cells #[.int .u64 v,.int .u64 n,.int .u64 m,.int .u64 0] 27));have hcur:=hcur.alloc hcur.size (.cells #[.int .u64 v,.int .u64 n,.int .u64 m,.int .u64 0] 27);with_reducible refine (write_ok (some ⟨wS.heap.size,0,none⟩) (some ⟨gS,0,none⟩) 4 4 4 4 [v,n,m,0] sz4 _ hAS.seq rfl okB_sz4 hL rfl rfl W1.out).mono ?_;intro e w2 hout;have hM:=hcur.size;obtain ⟨A2,c2,rfl,hown,hb⟩:=(WroteOut.yes hout FT.out).len (zs':=rowT v n m) (n:=8) rfl (rowT_length _ _ _);have hcur:=hcur.trans (hb.mono hcur.size);have hkX:=keepX _ hcur))
 all_goals (
  have hfin:=BL.out.trans (hcur.mono BL.out.size)
  have hown:=hown
  go_wp2
  go_ret
  exact ⟨A2,c2,rfl,owns_base hown (Nat.le_trans BL.out.size hM),hfin⟩)
theorem Arg.first {w:World} {k:IntKind} {A:Option Addr} {n c m:Nat} {zs:List Int} (h:Arg w k A n c zs) (hm:m≤n):Arg w k A m c (zs.take m):=by
 refine ⟨?_,by rw [List.length_take,h.len];omega,Nat.le_trans hm h.cap,h.max⟩
 have:=h.seq.take m
 unfold ints at this ⊢
 rwa [← List.map_take] at this
theorem wrap_i64_byte {z:Int} (h:isByte z):IntKind.i64.wrap z=z:=by
 obtain ⟨k,rfl⟩:=Int.eq_ofNat_of_zero_le h.1
 have:=h.2
 exact Lib.wrap_i64_small k (by omega)
theorem Blk.three {w:World} {g:Nat} {t:TypeId} {a b c:Value} (h:Blk w g t [a,b,c]) (x y z:Value):Blk (((w.setCell ⟨g,0,none⟩ x).setCell ⟨g,1,none⟩ y).setCell ⟨g,2,none⟩ z) g t [x,y,z]:=((h.set 0 x).set 1 y).set 2 z
theorem rowOf_any (b o c:Nat) (T:Txt) (w:World) (hT:Arg w .u8 (some ⟨b,o,none⟩) 32 c T) (hby:∀ z ∈ T,isByte z) :
  Calls Tryz.prog 203 #[.slice (some ⟨b,o,none⟩) 32 c] w fun e w'=>∃ n:Int,e=.returned (rowV (verOf T) n (manyOf T))∧Below w.heap.size w w':=by
 have x:=Blk.new w 288 [.int .u32 0,.int .i64 0,.int .i64 0]
 have hbel:Below w.heap.size w (w.alloc (.cells #[.int .u32 0,.int .i64 0,.int .i64 0] 288)):=(Below.refl _ _).alloc (Nat.le_refl _) _
 have h32:T.length=32:=hT.len
 have hvb:=ver_bounds (t:=T) (by omega) hby
 have hmb:=byte_getD hby 5
 have hnm:=nums4_eq T (by omega)
 rw [val_one (by omega),val_one (by omega)] at hnm
 have hnb:=byte_getD hby 4
 obtain ⟨nn,hnn⟩:∃ x,x=T.getD 4 0:=⟨_,rfl⟩
 obtain ⟨zz,hzz⟩:∃ x,x=val ((T.drop 6).take 2):=⟨_,rfl⟩
 have hmm:manyOf T=T.getD 5 0:=rfl
 rw [← hnn,← hzz,← hmm] at hnm
 rw [← hnn] at hnb
 rw [← hmm] at hmb
 obtain ⟨vv,hvv⟩:∃ x,x=verOf T:=⟨_,rfl⟩
 obtain ⟨mm,hmm2⟩:∃ x,x=manyOf T:=⟨_,rfl⟩
 rw [← hvv,← hmm2] at hnm
 rw [← hvv] at hvb
 rw [← hmm2] at hmb
 rw [← hvv,← hmm2]
 have hcc:=hT.cap
 have hmax:=hT.max
 unfold maxLen at hmax
 have HT:=Lh ((hT.first (m:=8) (by omega)).below hbel)
 have HNM:=Lh (show numsTo (T.take 8) sz4 4=[vv,nn,mm,zz] from hnm)
 have HBY:=Lh (show ∀ z ∈ T.take 8,isByte z from fun z hz=>hby z (List.mem_of_mem_take hz))
 have H8:=Lh (show (T.take 8).length=8 by rw [List.length_take];omega)
 have X:=Lh x
 have BL:=Lh hbel
 have hc8:(8:Int)≤(c:Int):=by omega
 obtain ⟨hv0,hv1⟩:=hvb
 obtain ⟨hn0,hn1⟩:=hnb
 obtain ⟨hm0,hm1⟩:=hmb
 have e1:IntKind.u32.wrap vv=vv:=wraps_u32 vv hv0 (by omega)
 have e2:IntKind.i64.wrap nn=nn:=wrap_i64_byte ⟨hn0,hn1⟩
 have e3:IntKind.i64.wrap mm=mm:=wrap_i64_byte ⟨hm0,hm1⟩
 clear x hbel hT hby hnm hmm hnn hzz hvv hmm2 h32
 go_enter Tryz.func203,Tryz.ntmps203
 go_upto_region 1 with fail
 obtain ⟨v1,hW⟩:∃ x:World,x=w.alloc (.cells #[.int .u32 0,.int .i64 0,.int .i64 0] 288):=⟨_,rfl⟩
 rw [← hW] at X BL HT ⊢
 have hlt:w.heap.size < v1.heap.size:=X.out.lt
 clear hW
 have hcur:Below v1.heap.size v1 v1.drew:=below_drewN (Below.refl _ _) 1
 go_region_with ((first
  | (go_at_call 211;with_reducible refine (sizes_any _).mono ?_;rintro e wS ⟨gS,rfl,hAS,hbS⟩;have hcur:=hcur.trans (hbS.mono hcur.size))
  | (go_at_call 123;with_reducible refine (read_ok (some ⟨b,o,none⟩) (some ⟨gS,0,none⟩) 8 c 4 4 (T.take 8) sz4 _ hAS.seq rfl okB_sz4 ((HT.out.below hcur).seq) H8.out at_sz4.symm (by omega) HT.out.max HBY.out).mono ?_;intro e w2 hout;have hM:=hcur.size;obtain ⟨A2,c2,rfl,hown,hb⟩:=hout.len (zs':=[vv,nn,mm,zz]) (n:=4) HNM.out rfl;have hcur:=hcur.trans (hb.mono hcur.size))))
 all_goals (
  have X2:=Lh (X.out.below hcur hlt)
  have B2:=Lh (BL.out.trans (hcur.mono BL.out.size))
  obtain ⟨g,rfl,hg,q0,_,_⟩:=owns_int_at (j:=0) hown (by decide)
  obtain ⟨_,eg,_,q1,_,_⟩:=owns_int_at (j:=1) hown (by decide)
  injection eg with eg;injection eg with eg;subst eg
  obtain ⟨_,eg,_,q2,_,_⟩:=owns_int_at (j:=2) hown (by decide)
  injection eg with eg;injection eg with eg;subst eg
  simp only [List.getD_cons_zero,List.getD_cons_succ] at q0 q1 q2
  clear hown hb hcur hout BL X HT HNM HBY H8
  go_upto_region 2 with fail
  have p0:=X2.out.cell 0
  have p1:=X2.out.cell 1
  have p2:=X2.out.cell 2
  have f0:=X2.out.free 0
  have f1:=X2.out.free 1
  have f2:=X2.out.free 2
  simp only [gcZ,gcS] at p0 p1 p2
  go_still_tail 13,(by kernel_rfl)
  change wpList _ _ _ _ _ w2.drew
  go_wp2
  have z:=X2.out.three (.int .u32 vv) (.int .i64 nn) (.int .i64 mm)
  have z0:=z.cell 0
  have z1:=z.cell 1
  have z2:=z.cell 2
  simp only [gcZ,gcS] at z0 z1 z2
  refine bodyPost_ret (v:=rowV vv nn mm) ?_ rfl ⟨⟨nn,rfl⟩,below_drewN (((B2.out.setCell (p:=⟨w.heap.size,0,none⟩) (Nat.le_refl _) _).setCell (p:=⟨w.heap.size,1,none⟩) (Nat.le_refl _) _).setCell (p:=⟨w.heap.size,2,none⟩) (Nat.le_refl _) _) 1⟩
  clear p0 p1 p2 f0 f1 f2 q0 q1 q2
  simp [results,Tryz.f203,go_sem,z0,z1,z2])
theorem splice_row (v n m:Int):splice (ints .u8 noughts) 0 (ints .u8 (rowT v n m))=ints .u8 (rowT v n m ++ List.replicate 24 0):=by
 have hl:(rowT v n m).length=8:=rowT_length v n m
 simp [splice,ints,noughts,hl]
theorem splice_part (r b:Txt) (hr:r.length=8) (hb:b.length≤24):splice (ints .u8 (r ++ List.replicate 24 0)) 8 (ints .u8 b)=ints .u8 (r ++ b ++ List.replicate (24 - b.length) 0):=by
 have e:24 - b.length=32 - (8 + b.length):=by omega
 have h1:(ints .u8 (r ++ List.replicate 24 0)).take 8=ints .u8 r:=by
  unfold ints
  rw [← List.map_take,List.take_append_of_le_length (by omega),List.take_of_length_le (by omega)]
 have h2:(ints .u8 (r ++ List.replicate 24 0)).drop (8 + (ints .u8 b).length)=ints .u8 (List.replicate (24 - b.length) 0):=by
  rw [ints_length]
  unfold ints
  rw [← List.map_drop,List.drop_append,List.drop_of_length_le (by omega),List.nil_append,List.drop_replicate,show 24 - (8 + b.length - r.length)=24 - b.length from by omega]
 unfold splice
 rw [h1,h2]
 simp [ints]
theorem text_any (v n m:Int) (hv:0≤v∧v < 4294967296) (hn:0≤n∧n < 256) (hm:0≤m∧m < 256) (A:Option Addr) (k c:Nat) (b:Txt) (w:World) (hb:Arg w .u8 A k c b) (hk:k≤24) :
  Calls Tryz.prog 204 #[rowV v n m,.slice A k c] w fun e w'=>∃ g,e=.returned (.slice (some ⟨g,0,none⟩) 32 32)∧w'.ownsRow w.heap.size 5 1 (.slice (some ⟨g,0,none⟩) 32 32) 32 (ints .u8 (rowT v n m ++ b ++ List.replicate (24 - b.length) 0))∧Below w.heap.size w w':=by
 have x:=Blk.new w 288 [.int .u32 v,.int .i64 n,.int .i64 m]
 have hbel:Below w.heap.size w (w.alloc (.cells #[.int .u32 v,.int .i64 n,.int .i64 m] 288)):=(Below.refl _ _).alloc (Nat.le_refl _) _
 obtain ⟨v1,hW⟩:∃ x:World,x=w.alloc (.cells #[.int .u32 v,.int .i64 n,.int .i64 m] 288):=⟨_,rfl⟩
 rw [← hW] at x hbel
 have hmk:=make_bytes 32 (by decide) v1
 rw [show ((32:Nat):Int)=32 from rfl] at hmk
 have y:=Blk.new v1 5 (List.replicate 32 (.int .u8 0))
 rw [noughts_ints] at y
 have hbl1:Below v1.heap.size v1 (v1.alloc (.cells (List.replicate 32 (.int .u8 0)).toArray 5)):=(Below.refl _ _).alloc (Nat.le_refl _) _
 rw [noughts_ints] at hmk hbl1
 have hxl:=x.lt
 obtain ⟨v2,hV⟩:∃ x:World,x=v1.alloc (.cells (ints .u8 noughts).toArray 5):=⟨_,rfl⟩
 rw [← hV] at hmk y hbl1
 have x2:=x.below hbl1 hxl
 have c0:=x2.cell 0
 have c1:=x2.cell 1
 have c2:=x2.cell 2
 simp only [gcZ,gcS] at c0 c1 c2
 have HB:=Lh hb
 have BL:=Lh (hbel.trans (hbl1.mono hbel.size))
 have Y:=Lh y
 have RB:=Lh (bytes_any v n m hv hn hm v2)
 have HG:=Lh hbel.size
 obtain ⟨G,hG⟩:∃ G,G=v1.heap.size:=⟨_,rfl⟩
 rw [← hG] at Y hmk HG
 have HWG:=Lh Y.out.lt
 clear x hbel hbl1 hb y x2 hxl hV hv hn hm hG
 go_enter Tryz.func204,Tryz.ntmps204
 go_upto_region 1 with fail
 rw [← hW]
 clear hW
 go_wp2_with fail
 refine RB.out.mono ?_
 rintro e w3 ⟨A2,c2',rfl,hown,hb3⟩
 have Y3:=Lh (Y.out.below hb3 HWG.out)
 have B3:=Lh (BL.out.trans (hb3.mono BL.out.size))
 have R2:=Lh (Arg.own hown)
 have HLEN:=Lh (show (ints .u8 (rowT v n m)).length=Nat.min 8 32 by rw [ints_length,rowT_length];decide)
 have HFIT:=Lh (show 0 + (ints .u8 (rowT v n m)).length≤(ints .u8 noughts).length by rw [ints_length,ints_length,rowT_length];decide)
 clear hown hb3 RB Y BL c0 c1 c2 hmk
 have HLE2:=Lh (show (ints .u8 b).length=Nat.min k 24 by rw [ints_length,HB.out.len];exact (Nat.min_eq_left hk).symm)
 have HFI2:=Lh (show 8 + (ints .u8 b).length≤(ints .u8 (rowT v n m ++ List.replicate 24 0)).length by rw [ints_length,ints_length,HB.out.len,List.length_append,rowT_length,List.length_replicate];omega)
 go_wp2_with (first | (with_reducible refine wpList_copy_seq (o:=⟨some 10,_,_,_,_,_⟩) rfl (.tmp 7) (.tmp 9) _ _ rfl 5 Tryz.underlying42 byte_size A2 G 0 32 32 8 c2' rfl rfl (ints .u8 noughts) 5 Y3.out (ints .u8 (rowT v n m)) HLEN.out _ R2.out.seq HFIT.out (ints_one _ _) w.heap.size w B3.out HG.out ?_;intro w4 HG4 hB4;have Y4:=HG4.out;rw [splice_row] at Y4;have R4:=Lh (HB.out.below hB4);have HB4:=Lh hB4;clear hB4 HG4;have Y4:=Lh Y4) | (with_reducible refine wpList_copy_seq (o:=⟨some 14,_,_,_,_,_⟩) rfl (.tmp 12) (.tmp 13) _ _ rfl 5 Tryz.underlying42 byte_size A G 8 24 24 k c rfl rfl (ints .u8 (rowT v n m ++ List.replicate 24 0)) 5 Y4.out (ints .u8 b) HLE2.out _ R4.out.seq HFI2.out (ints_one _ _) w.heap.size w HB4.out HG.out ?_;intro w5 HG5 hB5))
 go_ret
 have hb5:=HG5.out
 rw [splice_part _ _ (rowT_length v n m) (by rw [HB.out.len];exact hk)] at hb5
 exact ⟨G,rfl,hb5.owns HG.out (by rw [ints_length];simp only [List.length_append,rowT_length,List.length_replicate,HB.out.len];omega) (by decide),hB5⟩
def Panics (w:World) (e:Ending) (w':World):Prop:=(∃ v,e=.panicked [{ v:=.iface 39 v,recovered:=false }])∧Below w.heap.size w w'
abbrev contV (v:Int) (A:Option Addr) (n c:Nat):Value:=.agg #[.int .u32 v,.slice A n c]
theorem part_nil (n:Int) (w:World):Calls Tryz.prog 186 #[.slice none 0 0,.int .i64 n] w (Panics w):=by
 have hnil:=fun w=>Lib.run_eql_slice_nil (P:=Tryz.prog) w 42 5 none 0 0 0 0 Tryz.underlying42
 have hbel:Below w.heap.size w (w.alloc (.cells #[.int .u32 0,.slice none 0 0] 209)):=(Below.refl _ _).alloc (Nat.le_refl _) _
 have B:=Lh hbel
 clear hbel
 go_enter Tryz.func186,Tryz.ntmps186
 go_wp2
 exact ⟨rfl,⟨_,rfl⟩,B.out⟩
theorem part_no1 (n:Int) (b o c:Nat) (T:Txt) (w:World) (hT:Arg w .u8 (some ⟨b,o,none⟩) 32 c T) (hby:∀ z ∈ T,isByte z) (h:verOf T=0∨24 < manyOf T) :
  Calls Tryz.prog 186 #[.slice (some ⟨b,o,none⟩) 32 c,.int .i64 n] w (Panics w):=by
 have hnil:=fun w=>Lib.run_eql_slice_nil (P:=Tryz.prog) w 42 5 (some ⟨b,o,none⟩) 32 c 0 0 Tryz.underlying42
 have hbel:Below w.heap.size w (w.alloc (.cells #[.int .u32 0,.slice none 0 0] 209)):=(Below.refl _ _).alloc (Nat.le_refl _) _
 have B:=Lh hbel
 have R:=Lh (rowOf_any b o c T _ (hT.below hbel) hby)
 obtain ⟨vv,hvv⟩:∃ x,x=verOf T:=⟨_,rfl⟩
 obtain ⟨mm,hmm⟩:∃ x,x=manyOf T:=⟨_,rfl⟩
 rw [← hvv,← hmm] at h R
 clear hbel hT hby hvv hmm
 go_enter Tryz.func186,Tryz.ntmps186
 go_wp2_with fail
 refine R.out.mono ?_
 rintro e w2 ⟨n0,rfl,hb2⟩
 have B2:=Lh (B.out.trans (hb2.mono B.out.size))
 have Y:=Blk.new w2 288 [.int .u32 vv,.int .i64 n0,.int .i64 mm]
 have B3:=Lh (B2.out.alloc B2.out.size (.cells #[.int .u32 vv,.int .i64 n0,.int .i64 mm] 288))
 have p0:=Y.cell 0
 have p1:=Y.cell 1
 have p2:=Y.cell 2
 simp only [gcZ,gcS] at p0 p1 p2
 clear R hb2 B Y
 by_cases hv:vv=0
 ·subst hv
  clear h
  go_wp2
  exact ⟨rfl,⟨_,rfl⟩,B3.out⟩
 ·have hm:24 < mm:=by omega
  have hv2:(vv == 0)=false:=beq_eq_false_iff_ne.2 hv
  clear h
  go_wp2
  exact ⟨rfl,⟨_,rfl⟩,B3.out⟩
theorem part_fit (n:Int) (hn:0≤n∧n < 256) (b o c:Nat) (T:Txt) (w:World) (hT:Arg w .u8 (some ⟨b,o,none⟩) 32 c T) (hby:∀ z ∈ T,isByte z) (hv:verOf T≠0) (hm:manyOf T≤24) :
  Calls Tryz.prog 186 #[.slice (some ⟨b,o,none⟩) 32 c,.int .i64 n] w fun e w' =>
   (T=partT (verOf T) n (partB T)∧e=.returned (contV (verOf T) (some ⟨b,o + 8,none⟩) (partB T).length (c - 8))∧Below w.heap.size w w')∨(T≠partT (verOf T) n (partB T)∧Panics w e w'):=by
 have hnil:=fun w=>Lib.run_eql_slice_nil (P:=Tryz.prog) w 42 5 (some ⟨b,o,none⟩) 32 c 0 0 Tryz.underlying42
 have hbel:Below w.heap.size w (w.alloc (.cells #[.int .u32 0,.slice none 0 0] 209)):=(Below.refl _ _).alloc (Nat.le_refl _) _
 have B:=Lh hbel
 have X:=Lh (Blk.new w 209 [.int .u32 0,.slice none 0 0])
 have R:=Lh (rowOf_any b o c T _ (hT.below hbel) hby)
 have hpl:=partB_length hT.len hby hm
 have hvb:=ver_bounds (t:=T) (by rw [hT.len];decide) hby
 obtain ⟨m,hml⟩:∃ x,x=(partB T).length:=⟨_,rfl⟩
 rw [← hml] at hpl
 rw [← hml]
 have hpt:partT (verOf T) n (partB T)=rowT (verOf T) n m ++ partB T ++ List.replicate (24 - (partB T).length) 0:=by unfold partT;rw [hml]
 have hm24:m≤24:=by omega
 have hcc:=hT.cap
 have hmax:=hT.max
 have HT:=Lh hT
 have HPT:=Lh hpt
 have HBY:=Lh hby
 have HN:=Lh hn
 have HPB:=Lh (show ∀ wx,Below w.heap.size w wx→Arg wx .u8 (some ⟨b,o + 8,none⟩) m (c - 8) (partB T) from fun wx hx=>by
  have h2:=hT.below hx
  refine ⟨?_,hml.symm,by omega,by omega⟩
  have h3:=(h2.seq.drop 8).take (manyOf T).toNat
  unfold partB
  unfold ints at h3 ⊢
  rwa [← List.map_drop,← List.map_take] at h3)
 have HPY:=Lh (partB_byte hby)
 rw [← hpl] at R
 obtain ⟨vv,hvv⟩:∃ x,x=verOf T:=⟨_,rfl⟩
 obtain ⟨PB,hPB⟩:∃ x,x=partB T:=⟨_,rfl⟩
 rw [← hvv] at hv hvb R HPT ⊢
 rw [← hPB] at HPT HPB HPY ⊢
 have HVB:=Lh hvb
 have hv2:(vv == 0)=false:=beq_eq_false_iff_ne.2 hv
 have HML:=Lh (show m=PB.length by rw [hPB];exact hml)
 clear hbel hT hby hvv hpl hvb hml hpt hm hPB hn hv
 unfold maxLen at hmax
 go_enter Tryz.func186,Tryz.ntmps186
 go_wp2_with fail
 refine R.out.mono ?_
 rintro e w2 ⟨n0,rfl,hb2⟩
 have B2:=Lh (B.out.trans (hb2.mono B.out.size))
 have X2:=X.out.below hb2 X.out.lt
 have Y:=Blk.new w2 288 [.int .u32 vv,.int .i64 n0,.int .i64 m]
 have Y4:=Lh (Blk.new w2 288 [.int .u32 vv,.int .i64 n,.int .i64 m])
 have hb4:Below w2.heap.size w2 (w2.alloc (.cells #[.int .u32 vv,.int .i64 n,.int .i64 m] 288)):=(Below.refl _ _).alloc (Nat.le_refl _) _
 have X4:=Lh (X2.below hb4 X2.lt)
 have B4:=Lh (B2.out.trans (hb4.mono B2.out.size))
 have p0:=Y.cell 0
 have p1:=Y.cell 1
 have p2:=Y.cell 2
 simp only [gcZ,gcS] at p0 p1 p2
 have h24:¬ (24:Int) < (m:Int):=by omega
 have h8c:(8:Int) + (m:Int)≤(c:Int):=by omega
 clear R hb2 B Y X2 hb4 X B2
 go_wp2_with fail
 obtain ⟨v4,hW⟩:∃ x:World,x=w2.alloc (.cells #[.int .u32 vv,.int .i64 n,.int .i64 m] 288):=⟨_,rfl⟩
 rw [← hW] at X4 Y4 B4 ⊢
 clear hW p0 p1 p2
 refine (text_any vv n m HVB.out HN.out (by omega) (some ⟨b,o + 8,none⟩) m (c - 8) PB v4 (HPB.out _ B4.out) hm24).mono ?_
 rintro e w3 ⟨g,rfl,hown,hb3⟩
 rw [← HPT.out] at hown
 have Y5:=Y4.out.below hb3 Y4.out.lt
 have X5:=X4.out.below hb3 X4.out.lt
 have hb5:=B4.out.trans (hb3.mono B4.out.size)
 have E:=equal_any (some ⟨b,o,none⟩) 32 c T (some ⟨g,0,none⟩) 32 32 (partT vv n PB) w3 (HT.out.below hb5) (Arg.own hown) HBY.out (partT_byte _ _ HPY.out)
 have B5:=Lh hb5
 have p0:=Y5.cell 0
 have q0:=X5.cell 0
 have q1:=X5.cell 1
 have f0:=X5.free 0
 have f1:=X5.free 1
 simp only [gcZ,gcS] at p0 q0 q1
 have X6:=Lh X5
 by_cases hq:T=partT vv n PB
 ·rw [decide_eq_true hq] at E
  have E:=Lh E
  have HQ:=Lh hq
  clear hown hb3 Y5 X5 hb5 hq
  go_wp2_with fail
  refine E.out.mono ?_
  rintro e w6 ⟨rfl,rfl⟩
  go_wp2
  have z:=X6.out.two (.int .u32 vv) (.slice (some ⟨b,o + 8,none⟩) m (c - 8))
  have z0:=z.cell 0
  have z1:=z.cell 1
  simp only [gcZ,gcS] at z0 z1
  refine bodyPost_ret (v:=contV vv (some ⟨b,o + 8,none⟩) m (c - 8)) ?_ rfl (.inl ⟨HQ.out,rfl,below_two B5.out (Nat.le_refl _) _ _⟩)
  clear p0 q0 q1 f0 f1
  simp [results,Tryz.f186,go_sem,z0,z1]
 ·rw [decide_eq_false hq] at E
  have E:=Lh E
  have HQ:=Lh hq
  clear hown hb3 Y5 X5 hb5 hq
  go_wp2_with fail
  refine E.out.mono ?_
  rintro e w6 ⟨rfl,rfl⟩
  go_wp2
  exact ⟨rfl,.inr ⟨HQ.out,⟨_,rfl⟩,B5.out⟩⟩
abbrev Prt:=Int × Txt
def follows (p last:Prt):Prop:=p.1=last.1∧(p.2.length=0∨24≤last.2.length)
instance (p last:Prt):Decidable (follows p last):=by unfold follows;exact inferInstance
theorem follow_any (v v':Int) (A A':Option Addr) (c c':Nat) (b b':Txt) (w:World) :
  Calls Tryz.prog 187 #[contV v A b.length c,contV v' A' b'.length c'] w fun e w' =>
   (follows (v,b) (v',b')∧e=.returned (.tuple #[])∧Below w.heap.size w w')∨(¬ follows (v,b) (v',b')∧Panics w e w'):=by
 have x:=Blk.new w 209 [.int .u32 v,.slice A b.length c]
 have y:=Blk.new (w.alloc (.cells #[.int .u32 v,.slice A b.length c] 209)) 209 [.int .u32 v',.slice A' b'.length c']
 have hb1:Below w.heap.size w (w.alloc (.cells #[.int .u32 v,.slice A b.length c] 209)):=(Below.refl _ _).alloc (Nat.le_refl _) _
 have hb2:Below (w.alloc (.cells #[.int .u32 v,.slice A b.length c] 209)).heap.size (w.alloc (.cells #[.int .u32 v,.slice A b.length c] 209)) ((w.alloc (.cells #[.int .u32 v,.slice A b.length c] 209)).alloc (.cells #[.int .u32 v',.slice A' b'.length c'] 209)):=(Below.refl _ _).alloc (Nat.le_refl _) _
 have x2:=x.below hb2 x.lt
 have B:=Lh (hb1.trans (hb2.mono hb1.size))
 rw [World.size_alloc] at y
 have p0:=x2.cell 0
 have p1:=x2.cell 1
 have q0:=y.cell 0
 have q1:=y.cell 1
 simp only [gcZ,gcS] at p0 p1 q0 q1
 obtain ⟨k,hk⟩:∃ k,k=b.length:=⟨_,rfl⟩
 obtain ⟨k',hk'⟩:∃ k,k=b'.length:=⟨_,rfl⟩
 have HF:=Lh (show follows (v,b) (v',b')↔v=v'∧(k=0∨24≤k') by rw [hk,hk'];exact Iff.rfl)
 rw [← hk] at p0 p1 q0 q1 B ⊢
 rw [← hk'] at p0 p1 q0 q1 B ⊢
 clear x y hb1 hb2 x2 hk hk'
 by_cases hv:v=v'
 ·have hv2:(v != v')=false:=by rw [hv];exact bne_self_eq_false v'
  by_cases h0:k=0
  ·have h1:¬ (0:Int) < (k:Int):=by omega
   have HY:=Lh (HF.out.2 ⟨hv,.inl h0⟩)
   clear hv h0 HF
   go_enter Tryz.func187,Tryz.ntmps187
   go_wp2
   first | go_end0 | refine bodyPost_ret (results_none rfl _ _ _) rfl ?_
   exact .inl ⟨HY.out,rfl,B.out⟩
  ·have h1:(0:Int) < (k:Int):=by omega
   by_cases h2:24≤k'
   ·have h3:¬ (k':Int) < 24:=by omega
    have HY:=Lh (HF.out.2 ⟨hv,.inr h2⟩)
    clear hv h0 HF h2
    go_enter Tryz.func187,Tryz.ntmps187
    go_wp2
    first | go_end0 | refine bodyPost_ret (results_none rfl _ _ _) rfl ?_
    exact .inl ⟨HY.out,rfl,B.out⟩
   ·have h3:(k':Int) < 24:=by omega
    have HY:=Lh (fun h=>(HF.out.1 h).2.elim h0 h2:¬ follows (v,b) (v',b'))
    clear hv h0 HF h2
    go_enter Tryz.func187,Tryz.ntmps187
    go_wp2
    exact ⟨rfl,.inr ⟨HY.out,⟨_,rfl⟩,B.out⟩⟩
 ·have hv2:(v != v')=true:=bne_iff_ne.2 hv
  have HY:=Lh (fun h=>hv (HF.out.1 h).1:¬ follows (v,b) (v',b'))
  clear hv HF
  go_enter Tryz.func187,Tryz.ntmps187
  go_wp2
  exact ⟨rfl,.inr ⟨HY.out,⟨_,rfl⟩,B.out⟩⟩
structure Prts (w:World) (A:Option Addr) (n c:Nat) (ps:List Prt):Prop where
 len:ps.length=n
 at_:∀ i,i < n→∃ b Ai ni ci,A=some ⟨b,0,none⟩∧b < w.heap.size∧w.cell? ⟨b,i * 2,none⟩=some (.int .u32 (ps.getD i (0,[])).1)∧w.cell? ⟨b,i * 2 + 1,none⟩=some (.slice Ai ni ci)∧Arg w .u8 Ai ni ci (ps.getD i (0,[])).2
def joinV (ps:List Prt):Int:=ps.foldl (fun _ p=>p.1) 0
def joinB (ps:List Prt):Txt:=(ps.map Prod.snd).flatten
theorem take_snoc {α:Type} {l:List α} {k:Nat} (h:k < l.length) (d:α):l.take (k + 1)=l.take k ++ [l.getD k d]:=by
 rw [List.take_add_one,gtD,geE h]
 rfl
theorem joinV_snoc (ps:List Prt) (p:Prt):joinV (ps ++ [p])=p.1:=by simp [joinV,List.foldl_append]
theorem joinB_snoc (ps:List Prt) (p:Prt):joinB (ps ++ [p])=joinB ps ++ p.2:=by simp [joinB]
theorem joinB_length {ps:List Prt} {m:Nat} (h:∀ p ∈ ps,p.2.length≤m):(joinB ps).length≤m * ps.length:=by
 induction ps with
 | nil=>simp [joinB]
 | cons p t ih =>
  have h1:=ih fun q hq=>h q (List.mem_cons_of_mem _ hq)
  have h2:=h p (List.mem_cons_self ..)
  have h3:(joinB (p :: t)).length=p.2.length + (joinB t).length:=by simp [joinB]
  rw [h3,List.length_cons,Nat.mul_succ]
  omega
theorem joined_any (A:Option Addr) (n c:Nat) (ps:List Prt) (w:World) (h:Prts w A n c ps) (hn:n≤100) (hs:∀ p ∈ ps,p.2.length≤100) :
  Calls Tryz.prog 185 #[.slice A n c] w fun e w'=>∃ A' c',e=.returned (contV (joinV ps) A' (joinB ps).length c')∧w'.ownsRow w.heap.size 5 1 (.slice A' (joinB ps).length c') (joinB ps).length (ints .u8 (joinB ps))∧Below w.heap.size w w':=by
 obtain ⟨i0,hi0,hz0,hz1,hz2⟩:=info_parts byte_info
 have hml:(100000:Nat)≤maxLen:=by decide
 have x0:=Blk.new w 209 [.int .u32 0,.slice none 0 0]
 have hb0:Below w.heap.size w (w.alloc (.cells #[.int .u32 0,.slice none 0 0] 209)):=(Below.refl _ _).alloc (Nat.le_refl _) _
 have x1:=Blk.new (w.alloc (.cells #[.int .u32 0,.slice none 0 0] 209)) 209 [.int .u32 0,.slice none 0 0]
 have hb1:Below (w.alloc (.cells #[.int .u32 0,.slice none 0 0] 209)).heap.size (w.alloc (.cells #[.int .u32 0,.slice none 0 0] 209)) ((w.alloc (.cells #[.int .u32 0,.slice none 0 0] 209)).alloc (.cells #[.int .u32 0,.slice none 0 0] 209)):=(Below.refl _ _).alloc (Nat.le_refl _) _
 have x0:=x0.below hb1 x0.lt
 have hbel:=hb0.trans (hb1.mono hb0.size)
 have hsz:((w.alloc (.cells #[.int .u32 0,.slice none 0 0] 209)).alloc (.cells #[.int .u32 0,.slice none 0 0] 209)).heap.size=w.heap.size + 2:=by simp
 rw [World.size_alloc] at x1
 obtain ⟨w1,hw1⟩:∃ w1,w1=(w.alloc (.cells #[.int .u32 0,.slice none 0 0] 209)).alloc (.cells #[.int .u32 0,.slice none 0 0] 209):=⟨_,rfl⟩
 rw [← hw1] at x0 x1 hbel hsz
 have X0:=Lh x0
 have X1:=Lh x1
 have BEL:=Lh hbel
 have HSZ:=Lh hsz
 have HP:=Lh h
 have HLN:=Lh h.len
 have HS:=Lh hs
 have HN:=Lh hn
 have HM:=Lh (show n≤9223372036854775807 by omega)
 clear x0 x1 hb0 hb1 hbel hsz h hs hn
 go_enter Tryz.func185,Tryz.ntmps185
 go_wp2
 rw [← hw1]
 clear hw1
 go_loopw [8,5] (fun i p wr=>∃ k:Nat,k≤n∧i=.int .i64 k∧Blk wr w.heap.size 209 [.int .u32 0,.slice none 0 0]∧(∃ A1 c1,Blk wr (w.heap.size + 1) 209 [.int .u32 (joinV (ps.take k)),.slice A1 (joinB (ps.take k)).length c1]∧wr.ownsRow (w.heap.size + 2) 5 1 (.slice A1 (joinB (ps.take k)).length c1) (joinB (ps.take k)).length (ints .u8 (joinB (ps.take k))))∧Below w.heap.size w wr∧w.heap.size + 2≤wr.heap.size) (fun i _ _=>n - (intOf i).toNat)
 case atStart=>exact ⟨0,Nat.zero_le _,rfl,X0.out,⟨none,0,X1.out,World.ownsRow_nil _ _ _ _⟩,BEL.out,Nat.le_of_eq HSZ.out.symm⟩
 case round =>
  obtain ⟨k,hk,rfl,hx0,⟨A1,c1,hx1,hO⟩,hB,hsz⟩:=hrel
  have hnM:=HM.out
  by_cases hkn:k < n
  ·have hki:(k:Int) < (n:Int):=by omega
   have hkl:k < ps.length:=by rw [HLN.out];exact hkn
   obtain ⟨b,Ai,ni,ci,eA,hlt,hcv,hcs,hai⟩:=HP.out.at_ k hkn
   have e0:=(hB.cell (p:=⟨b,k * 2,none⟩) hlt).trans hcv
   have e1:=(hB.cell (p:=⟨b,k * 2 + 1,none⟩) hlt).trans hcs
   have hTL:=HS.out (ps.getD k (0,[])) (by rw [gtD,geE hkl];exact List.getElem_mem hkl)
   have RS:=Lh (take_snoc hkl ((0,[]):Prt))
   obtain ⟨pk,hpk⟩:∃ x,x=ps.getD k (0,[]):=⟨_,rfl⟩
   rw [← hpk] at e0 hai hTL RS
   obtain ⟨v,T⟩:=pk
   dsimp only at e0 hai hTL
   have hJ:=joinB_length (ps:=ps.take k) (m:=100) fun p hp=>HS.out p (List.mem_of_mem_take hp)
   have hJ2:(ps.take k).length≤100:=by rw [List.length_take];have:=HN.out;omega
   obtain ⟨J,hJe⟩:∃ x,x=joinB (ps.take k):=⟨_,rfl⟩
   rw [← hJe] at hx1 hO hJ
   obtain ⟨m,hm⟩:∃ x,x=J.length:=⟨_,rfl⟩
   rw [← hm] at hx1 hO hJ
   have hmm:m≤10000:=by omega
   have hni:ni≤100:=by have:=hai.len;omega
   have HJE:=Lh hJe
   have HMJ:=Lh hm
   have HTL:=Lh (show (ints .u8 T).length=ni by rw [ints_length];exact hai.len)
   have hbA:Below wr.heap.size wr (wr.alloc (.cells #[.int .u32 v,.slice Ai ni ci] 209)):=(Below.refl _ _).alloc (Nat.le_refl _) _
   have z1:=hx1.below hbA hx1.lt
   have z0:=(hx0.below hbA hx0.lt).away (show w.heap.size≠w.heap.size + 1 by omega) 0 (.int .u32 v)
   have y1:=Blk.new wr 209 [.int .u32 v,.slice Ai ni ci]
   have hy:wr.heap.size≠w.heap.size + 1:=by have:=hx1.lt;omega
   have y2:=y1.away hy 0 (.int .u32 v)
   have z2:=z1.set 0 (.int .u32 v)
   have hbW:Below w.heap.size w ((wr.alloc (.cells #[.int .u32 v,.slice Ai ni ci] 209)).setCell ⟨w.heap.size + 1,0,none⟩ (.int .u32 v)):=(hB.trans (hbA.mono hB.size)).setCell (p:=⟨w.heap.size + 1,0,none⟩) (Nat.le_succ _) _
   have SQ:=Lh ((hai.below hbW).seq)
   have O2:=Lh (owns_other_box (owns_below hO hbA) z1 (by decide) 0 (.int .u32 v))
   have HB2:=Lh (show w.heap.size + 2≤((wr.alloc (.cells #[.int .u32 v,.slice Ai ni ci] 209)).setCell ⟨w.heap.size + 1,0,none⟩ (.int .u32 v)).heap.size by simp [World.setCell];omega)
   have a0:=y1.cell 0
   have a1:=y1.cell 1
   have a2:=z1.cell 0
   have a3:=z1.free 0
   have d1:=y2.cell 1
   have d2:=z2.cell 1
   simp only [gcZ,gcS,scZ] at a0 a1 a2 d1 d2
   have Z2:=Lh z2
   have Z0:=Lh z0
   have HBW:=Lh hbW
   subst eA
   clear hcv hcs hx0 hx1 hO hB hbA z1 z0 y1 y2 z2 hbW hJ hJ2 hJe hm hai hTL hpk
   go_wp2_with (at_builtin;go_must (refine wpList_behind_g _ _ rfl (.tmp 16) (.tmp 18) _ rfl (w.heap.size + 2) 5 i0 _ 1 Tryz.underlying42 hi0 hz0 hz1 hz2 rfl A1 m c1 (ints .u8 J) rfl O2.out _ Ai ni ci (ints .u8 T) rfl HTL.out SQ.out (ints_one _ _) (by omega) (by omega) (Below.refl _ _) HB2.out ?_);intro A9 c9 w9 hown9 hb9;have k9:=Z2.out.below hb9 (Nat.lt_succ_self _);have K0:=Lh (Z0.out.below hb9 (Nat.lt_succ_of_lt (Nat.lt_succ_self _)));have b1:=k9.cell 1;have b2:=k9.free 1;simp only [gcZ,gcS,scZ] at b1;have K9:=Lh k9;have O9:=Lh hown9;have B9:=Lh hb9;clear hown9 hb9 k9)
   go_roundw
   case rel =>
    refine ⟨k + 1,by omega,by go_num,K0.out.away (show w.heap.size≠w.heap.size + 1 by omega) 1 _,⟨A9,c9,?_,?_⟩,((HBW.out.trans (B9.out.mono (by omega)))).setCell (p:=⟨w.heap.size + 1,1,none⟩) (Nat.le_succ _) _,?_⟩
    ·rw [RS.out,joinV_snoc,joinB_snoc,← HJE.out,List.length_append,← HMJ.out,show T.length=ni by have:=HTL.out;rwa [ints_length] at this]
     exact K9.out.set 1 _
    ·rw [RS.out,joinB_snoc,← HJE.out,List.length_append,← HMJ.out,show T.length=ni by have:=HTL.out;rwa [ints_length] at this]
     have o:=owns_other_box O9.out K9.out (by decide) 1 (.slice A9 (m + ni) c9)
     unfold ints at o ⊢
     rwa [List.map_append]
    ·have h1:=B9.out.size
     have h2:=HB2.out
     simp only [World.setCell] at h1 h2 ⊢
     simp at h1 h2 ⊢
     omega
   all_goals (try case measure=>simp [intOf];omega)
  ·obtain rfl:k=n:=by omega
   rw [List.take_of_length_le (Nat.le_of_eq HLN.out)] at hx1 hO
   have a0:=hx1.cell 0
   have a1:=hx1.cell 1
   have b0:=hx0.cell 0
   have b1:=hx0.cell 1
   have f0:=hx0.free 0
   have f1:=hx0.free 1
   simp only [gcZ,gcS] at a0 a1 b0 b1
   have K0:=Lh hx0
   have O:=Lh hO
   have B:=Lh hB
   clear hx0 hx1 hO hB
   go_wp2
   have z:=K0.out.two (.int .u32 (joinV ps)) (.slice A1 (joinB ps).length c1)
   have z0:=z.cell 0
   have z1:=z.cell 1
   simp only [gcZ,gcS] at z0 z1
   have o1:=owns_other_box O.out K0.out (by decide) 0 (.int .u32 (joinV ps))
   have o2:=owns_other_box o1 (K0.out.set 0 (.int .u32 (joinV ps))) (by decide) 1 (.slice A1 (joinB ps).length c1)
   refine bodyPost_ret (v:=contV (joinV ps) A1 (joinB ps).length c1) ?_ rfl ⟨A1,c1,rfl,owns_base o2 (by omega),below_two B.out (Nat.le_refl _) _ _⟩
   clear a0 a1 b0 b1 f0 f1
   simp [results,Tryz.f185,go_sem,z0,z1]
theorem catch_panicking (p q:Option Addr) (u:TypeId) (pv:Value) (older:List PanicEntry) (w:World) :
  CallsD Tryz.prog 184 #[.pointer p,.pointer q] (.panicking ({ v:=.iface u pv,recovered:=false } :: older)) w fun e u' w' =>
   e=.returned (.tuple #[])∧u'=.panicking ({ v:=.iface u pv,recovered:=true } :: older)∧w'=w:=by
 refine callsD_of_wpS Tryz.func184 rfl fun c₀ cs hu=>?_
 apply wpS_seq
 apply wpS_region
 simp [wpOpsS,go_sem,recoverD,hu,Tryz.ntmps184,Exit.thenS]
 refine wpS_cond (t:=false) (by simp [Act.eval,Array.replicate]) ?_
 simp only [Bool.false_eq_true,if_false]
 refine wpS_of_wp (wp_skip ?_)
 cases c₀
 simp_all [bodyPostS,results,Tryz.results184]
theorem catch_idle (G1 G0:Nat) (A:Option Addr) (n c:Nat) (ps:List Prt) (w:World) (h:Prts w A n c ps) (hn:n≤100) (hs:∀ p ∈ ps,p.2.length≤100) (x1:Blk w G1 270 [.slice A n c]) {u0 u1:Value} (x0:Blk w G0 209 [u0,u1]) :
  CallsD Tryz.prog 184 #[.pointer (some ⟨G1,0,none⟩),.pointer (some ⟨G0,0,none⟩)] .returning w fun e u' w'=>e=.returned (.tuple #[])∧u'=.returning ∧
   ∃ A' c' w2,w2.ownsRow w.heap.size 5 1 (.slice A' (joinB ps).length c') (joinB ps).length (ints .u8 (joinB ps))∧Below w.heap.size w w2∧w'=(w2.setCell ⟨G0,0,none⟩ (.int .u32 (joinV ps))).setCell ⟨G0,1,none⟩ (.slice A' (joinB ps).length c'):=by
 refine callsD_of_wpS Tryz.func184 rfl fun c₀ cs hu=>?_
 apply wpS_seq
 apply wpS_region
 simp [wpOpsS,go_sem,recoverD,hu,Tryz.ntmps184,Exit.thenS]
 refine wpS_cond (t:=true) (by simp [Act.eval,Array.replicate]) ?_
 simp only [if_true]
 refine wpS_of_wp ?_
 have c0:=x1.cell 0
 simp only [gcZ] at c0
 have J:=Lh (joined_any A n c ps w h hn hs)
 have X0:=Lh x0
 have CU:=Lh hu
 clear h hn hs x1 x0 hu
 show Code.wp _ _ _ { tmps:=#[.pointer (some ⟨G1,0,none⟩),.pointer (some ⟨G0,0,none⟩),.nilIface,.bool true,undef,undef],defers:=[] } w
 go_wp2_with fail
 refine J.out.mono ?_
 rintro e w2 ⟨A',c',rfl,hown,hb⟩
 have x0:=X0.out.below hb X0.out.lt
 have a0:=x0.cell 0
 have a1:=x0.cell 1
 have f0:=x0.free 0
 have f1:=x0.free 1
 simp only [gcZ,gcS] at a0 a1
 have O:=Lh hown
 have B:=Lh hb
 clear hown hb x0 J
 go_wp2
 have hu:=CU.out
 cases c₀
 simp only at hu
 subst hu
 refine ⟨rfl,.returning,rfl,.tuple #[],?_,rfl,rfl,A',c',w2,O.out,B.out,rfl⟩
 simp [results,Tryz.results184]
def partO (n:Nat):Option Txt→Option Prt
 | none=>none
 | some T=>if partOk n T then some (verOf T,partB T) else none
def heldTo (l:List (Option Txt)):Nat→Option (List Prt)
 | 0=>some []
 | k + 1=>match heldTo l k with
  | none=>none
  | some ps=>match partO k (l.getD k none) with
   | none=>none
   | some p=>if k=0∨follows p (ps.getD (k - 1) (0,[])) then some (ps ++ [p]) else none
def slotV (l:List (Option Txt)):Int:=match heldTo l l.length with | none=>0 | some ps=>joinV ps
def slotB (l:List (Option Txt)):Txt:=match heldTo l l.length with | none=>[] | some ps=>joinB ps
theorem heldTo_none {l:List (Option Txt)} {k n:Nat} (h:heldTo l k=none) (hn:k≤n):heldTo l n=none:=by
 induction n with
 | zero=>rw [show k=0 by omega] at h;exact h
 | succ n ih =>
  rcases Nat.lt_or_ge k (n + 1) with h1 | h1
  ·rw [heldTo,ih (by omega)]
  ·rw [show n + 1=k by omega];exact h
theorem partO_small {n:Nat} {t:Option Txt} {p:Prt} (h:partO n t=some p):p.2.length≤24:=by
 cases t with
 | none=>cases h
 | some T =>
  unfold partO at h
  dsimp only at h
  split at h
  ·rename_i hk
   injection h with h
   subst h
   simp only [partOk,Bool.and_eq_true,decide_eq_true_eq] at hk
   show (partB T).length≤24
   unfold partB
   rw [List.length_take]
   omega
  ·cases h
theorem heldTo_succ {l:List (Option Txt)} {k:Nat} {ps:List Prt} {p:Prt} (h:heldTo l k=some ps) (hp:partO k (l.getD k none)=some p) (hf:k=0∨follows p (ps.getD (k - 1) (0,[]))):heldTo l (k + 1)=some (ps ++ [p]):=by
 rw [heldTo,h]
 dsimp only
 rw [hp]
 dsimp only
 rw [if_pos hf]
theorem heldTo_stop {l:List (Option Txt)} {k:Nat} {ps:List Prt} (h:heldTo l k=some ps) (hp:partO k (l.getD k none)=none):heldTo l (k + 1)=none:=by
 rw [heldTo,h]
 dsimp only
 rw [hp]
theorem heldTo_stop2 {l:List (Option Txt)} {k:Nat} {ps:List Prt} {p:Prt} (h:heldTo l k=some ps) (hp:partO k (l.getD k none)=some p) (hf:¬ (k=0∨follows p (ps.getD (k - 1) (0,[])))):heldTo l (k + 1)=none:=by
 rw [heldTo,h]
 dsimp only
 rw [hp]
 dsimp only
 rw [if_neg hf]
theorem heldTo_small {l:List (Option Txt)} {k:Nat} {ps:List Prt} (h:heldTo l k=some ps):ps.length=k∧∀ p ∈ ps,p.2.length≤24:=by
 induction k generalizing ps with
 | zero=>injection h with h;subst h;exact ⟨rfl,by simp⟩
 | succ k ih =>
  rw [heldTo] at h
  rcases h1:heldTo l k with _ | qs
  ·rw [h1] at h;cases h
  ·rw [h1] at h
   dsimp only at h
   rcases h2:partO k (l.getD k none) with _ | p
   ·rw [h2] at h;cases h
   ·rw [h2] at h
    dsimp only at h
    split at h
    ·injection h with h
     subst h
     obtain ⟨h3,h4⟩:=ih h1
     refine ⟨by simp [h3],fun q hq=>?_⟩
     rcases List.mem_append.1 hq with hq | hq
     ·exact h4 q hq
     ·rw [List.mem_singleton] at hq
      subst hq
      exact partO_small h2
    ·cases h
def OptArg (w:World) (A:Option Addr) (n c:Nat):Option Txt→Prop
 | none=>A=none∧n=0∧c=0
 | some T=>Arg w .u8 A n c T∧T.length=32∧∀ z ∈ T,isByte z
theorem OptArg.below {w w':World} {A:Option Addr} {n c:Nat} {t:Option Txt} (h:OptArg w A n c t) (hb:Below w.heap.size w w'):OptArg w' A n c t:=by
 cases t with
 | none=>exact h
 | some T=>exact ⟨h.1.below hb,h.2⟩
structure Opts (w:World) (A:Option Addr) (n c:Nat) (l:List (Option Txt)):Prop where
 len:l.length=n
 cap:n≤c
 max:c≤maxLen
 at_:∀ i,i < n→∃ b o Ai ni ci,A=some ⟨b,o,none⟩∧b < w.heap.size∧w.cell? ⟨b,o + i,none⟩=some (.slice Ai ni ci)∧OptArg w Ai ni ci (l.getD i none)
theorem Opts.below {w w':World} {A:Option Addr} {n c:Nat} {l:List (Option Txt)} (h:Opts w A n c l) (hb:Below w.heap.size w w'):Opts w' A n c l :=
 ⟨h.len,h.cap,h.max,fun i hi=>by
  obtain ⟨b,o,Ai,ni,ci,e,hlt,hc,ha⟩:=h.at_ i hi
  exact ⟨b,o,Ai,ni,ci,e,Nat.lt_of_lt_of_le hlt hb.size,(hb.cell (p:=⟨b,_,none⟩) hlt).trans hc,ha.below hb⟩⟩
theorem arg_part {w:World} {b o c:Nat} {T:Txt} (hT:Arg w .u8 (some ⟨b,o,none⟩) 32 c T) (hm:manyOf T≤24):Arg w .u8 (some ⟨b,o + 8,none⟩) (partB T).length (c - 8) (partB T):=by
 have hcc:=hT.cap
 have hmax:=hT.max
 have hl:(partB T).length≤24:=by unfold partB;rw [List.length_take];omega
 refine ⟨?_,rfl,by omega,by omega⟩
 have h3:=(hT.seq.drop 8).take (manyOf T).toNat
 unfold partB
 unfold ints at h3 ⊢
 rwa [← List.map_drop,← List.map_take] at h3
theorem part_any (k:Nat) (hk:k < 256) (A:Option Addr) (n c:Nat) (t:Option Txt) (w0 w:World) (h:OptArg w0 A n c t) (hbw:Below w0.heap.size w0 w) :
  Calls Tryz.prog 186 #[.slice A n c,.int .i64 k] w fun e w' =>
   (∃ p Ap cp,partO k t=some p∧e=.returned (contV p.1 Ap p.2.length cp)∧Arg w0 .u8 Ap p.2.length cp p.2∧Below w.heap.size w w')∨(partO k t=none∧Panics w e w'):=by
 cases t with
 | none =>
  obtain ⟨rfl,rfl,rfl⟩:=h
  exact (part_nil k w).mono fun e w' h=>.inr ⟨rfl,h⟩
 | some T =>
  obtain ⟨hT,h32,hby⟩:=h
  obtain rfl:n=32:=by rw [← hT.len,h32]
  obtain ⟨b,o,rfl,_,_⟩:=hT.seq.at_ (by rw [ints_length];omega)
  by_cases h1:verOf T=0∨24 < manyOf T
  ·refine (part_no1 k b o c T w (hT.below hbw) hby h1).mono fun e w' h=>.inr ⟨?_,h⟩
   have:partOk k T=false:=by
    rcases h1 with h1 | h1
    ·simp [partOk,h1]
    ·have:¬ manyOf T≤24:=by omega
     simp [partOk,this]
   simp [partO,this]
  ·have hv:verOf T≠0:=fun h=>h1 (.inl h)
   have hm:manyOf T≤24:=by omega
   refine (part_fit k ⟨by omega,by omega⟩ b o c T w (hT.below hbw) hby hv hm).mono fun e w' h=>?_
   rcases h with ⟨h2,rfl,hb⟩ | ⟨h2,hp⟩
   ·refine .inl ⟨(verOf T,partB T),some ⟨b,o + 8,none⟩,c - 8,?_,rfl,arg_part hT hm,hb⟩
    have:partOk k T=true:=by simp only [partOk,Bool.and_eq_true,decide_eq_true_eq];exact ⟨⟨hv,hm⟩,h2⟩
    simp [partO,this]
   ·refine .inr ⟨?_,hp⟩
    have:partOk k T=false:=by
     simp only [partOk,Bool.and_eq_false_iff,decide_eq_false_iff_not]
     exact .inr h2
    simp [partO,this]
def OwnPrts (w0 w:World) (base:Nat) (A:Option Addr) (n c:Nat) (ps:List Prt):Prop :=
 ∃ vs:List Value,w.ownsRow base 209 2 (.slice A n c) n vs∧ps.length=n ∧
  ∀ i,i < n→∃ Ai ni ci,vs[i * 2]?=some (.int .u32 (ps.getD i (0,[])).1)∧vs[i * 2 + 1]?=some (.slice Ai ni ci)∧Arg w0 .u8 Ai ni ci (ps.getD i (0,[])).2
theorem OwnPrts.nil (w0 w:World) (base:Nat):OwnPrts w0 w base none 0 0 []:=⟨[],World.ownsRow_nil _ _ _ _,rfl,fun i hi=>by omega⟩
theorem OwnPrts.below {w0 w w':World} {base:Nat} {A:Option Addr} {n c:Nat} {ps:List Prt} (h:OwnPrts w0 w base A n c ps) (hb:Below w.heap.size w w'):OwnPrts w0 w' base A n c ps:=by
 obtain ⟨vs,h1,h2,h3⟩:=h
 exact ⟨vs,owns_below h1 hb,h2,h3⟩
theorem OwnPrts.off {w0 w:World} {base:Nat} {A:Option Addr} {n c:Nat} {ps:List Prt} (h:OwnPrts w0 w base A n c ps) {g:Nat} (hg:g < base) (i:Nat) (u:Value):OwnPrts w0 (w.setCell ⟨g,i,none⟩ u) base A n c ps:=by
 obtain ⟨vs,h1,h2,h3⟩:=h
 exact ⟨vs,owns_under h1 (grownBy_set w g i u) (fun k hk=>by injection hk with hk;omega),h2,h3⟩
theorem Prts.of_own {w0 w:World} {base:Nat} {A:Option Addr} {n c:Nat} {ps:List Prt} (h:OwnPrts w0 w base A n c ps) (hb:Below w0.heap.size w0 w):Prts w A n c ps:=by
 obtain ⟨vs,h1,h2,h3⟩:=h
 refine ⟨h2,fun i hi=>?_⟩
 obtain ⟨Ai,ni,ci,hv,hx,ha⟩:=h3 i hi
 obtain ⟨b,e,hlt,hc⟩:=owns_cell h1 hv
 obtain ⟨b',e',_,hcx⟩:=owns_cell h1 hx
 rw [e] at e'
 cases e'
 exact ⟨b,Ai,ni,ci,e,hlt,hc,hcx,ha.below hb⟩
theorem prt_info:(Tryz.prog.info? 209).map (fun i=>(i.zero,i.size,i.bytes))=some (some (.agg #[.int .u32 0,.slice none 0 0]),2,32):=by kernel_rfl
theorem wpList_prt (w0 w:World) {ops:Array Oper} {Q:Exit→Act→World→Prop} {a:Act} {rest:List Oper} {o:Oper} (hw:Region.wanted o (yielded ops a.tmps)=true) (s y:Operand)
  (ho:o.op=.call { callee:=.builtin .append,args:=#[s,y],argTypes:=#[270,270] }) (base:Nat) (A0:Option Addr) (n c0:Nat) (ps:List Prt) (hs:a.eval s=.slice A0 n c0) (hown:OwnPrts w0 w base A0 n c0 ps)
  (v:Int) (Ai:Option Addr) (ni ci:Nat) (zs:Txt) (ha:Arg w0 .u8 Ai ni ci zs) (hy:a.eval y=.slice (some ⟨w.heap.size,0,none⟩) 1 1)
  (h63:n + 1≤100000) (hbase:base≤w.heap.size)
  (h:∀ g' c' w',OwnPrts w0 w' base (some ⟨g',0,none⟩) (n + 1) c' (ps ++ [(v,zs)])→Below base w w'→wpList Tryz.prog ops Q rest (a.put o.dst (.slice (some ⟨g',0,none⟩) (n + 1) c')) w') :
  wpList Tryz.prog ops Q (o :: rest) a (w.alloc (.cells #[.int .u32 v,.slice Ai ni ci] 209)):=by
 obtain ⟨i,hi,hz,hsize,hby⟩:=info_parts prt_info
 have hml:(100000:Nat)≤maxLen:=by decide
 obtain ⟨vs,hv,hl,hin⟩:=hown
 have hblk:=Blk.new w 209 [.int .u32 v,.slice Ai ni ci]
 obtain ⟨v',w',hrun,hown',hg,_⟩:=run_app2 (P:=Tryz.prog) (w.alloc (.cells #[.int .u32 v,.slice Ai ni ci] 209)) base 270 o.type 209 i _ 32 Tryz.underlying270 hi hz hsize hby rfl _ n vs (hv.allocated _) w.heap.size (.int .u32 v) (.slice Ai ni ci) hblk rfl rfl (by omega) (by omega) (by simp;omega)
 obtain ⟨g',c',rfl⟩:=ownsRow_some hown'
 have hvl:=hv.1
 have hfin:OwnPrts w0 w' base (some ⟨g',0,none⟩) (n + 1) c' (ps ++ [(v,zs)]):=by
  refine ⟨_,hown',by simp [hl],fun j hj=>?_⟩
  by_cases e:j=n
  ·subst e
   have e2:(ps ++ [(v,zs)]).getD j (0,[])=(v,zs):=by simp [List.getD_eq_getElem?_getD,hl]
   refine ⟨Ai,ni,ci,?_,?_,by rw [e2];exact ha⟩
   ·rw [List.getElem?_append_right (by omega),e2,show j * 2 - vs.length=0 from by omega];rfl
   ·rw [List.getElem?_append_right (by omega),show j * 2 + 1 - vs.length=1 from by omega];rfl
  ·obtain ⟨Aj,nj,cj,hv2,hx,hoj⟩:=hin j (by omega)
   have e2:(ps ++ [(v,zs)]).getD j (0,[])=ps.getD j (0,[]):=by simp [List.getD_eq_getElem?_getD,List.getElem?_append_left (show j < ps.length by omega)]
   refine ⟨Aj,nj,cj,?_,?_,by rw [e2];exact hoj⟩
   ·rw [List.getElem?_append_left (by omega),e2];exact hv2
   ·rw [List.getElem?_append_left (by omega)];exact hx
 refine wpList_want hw fun K hK=>?_
 unfold Oper.wp execOp
 simp only [ho,resolve,invoke,builtin,Sem.run_bind,Sem.run_pure,Result.andThen_ok,List.map_toArray,List.map_cons,List.map_nil,hs,hy,hrun]
 exact hK _ _ (h g' c' w' hfin (((Below.refl _ _).alloc hbase _).grown hg (by simp;omega) (fun g e=>(hv.lt g e).1)))
theorem content_any (A:Option Addr) (n c:Nat) (l:List (Option Txt)) (w:World) (h:Opts w A n c l) (hn:n≤100) :
  Calls Tryz.prog 157 #[.slice A n c] w fun e w'=>∃ A' c',e=.returned (contV (slotV l) A' (slotB l).length c')∧w'.ownsRow w.heap.size 5 1 (.slice A' (slotB l).length c') (slotB l).length (ints .u8 (slotB l))∧Below w.heap.size w w':=by
 have hmf:∀ (fn:Fn) (first cap:Array Value) (w:World),(Instr.makeFunc fn first cap).run Tryz.prog w=.ok (.func fn first cap) w:=fun _ _ _ _=>rfl
 have x0:=Blk.new w 209 [.int .u32 0,.slice none 0 0]
 have hb0:Below w.heap.size w (w.alloc (.cells #[.int .u32 0,.slice none 0 0] 209)):=(Below.refl _ _).alloc (Nat.le_refl _) _
 have x1:=Blk.new (w.alloc (.cells #[.int .u32 0,.slice none 0 0] 209)) 270 [.slice none 0 0]
 have hb1:Below (w.alloc (.cells #[.int .u32 0,.slice none 0 0] 209)).heap.size (w.alloc (.cells #[.int .u32 0,.slice none 0 0] 209)) ((w.alloc (.cells #[.int .u32 0,.slice none 0 0] 209)).alloc (.cells #[.slice none 0 0] 270)):=(Below.refl _ _).alloc (Nat.le_refl _) _
 have x0:=x0.below hb1 x0.lt
 have hbel:=hb0.trans (hb1.mono hb0.size)
 have hsz:((w.alloc (.cells #[.int .u32 0,.slice none 0 0] 209)).alloc (.cells #[.slice none 0 0] 270)).heap.size=w.heap.size + 2:=by simp
 rw [World.size_alloc] at x1
 obtain ⟨w1,hw1⟩:∃ w1,w1=((w.alloc (.cells #[.int .u32 0,.slice none 0 0] 209)).alloc (.cells #[.slice none 0 0] 270)):=⟨_,rfl⟩
 rw [← hw1] at x0 x1 hbel hsz
 have X0:=Lh x0
 have X1:=Lh x1
 have BEL:=Lh hbel
 have HSZ:=Lh hsz
 have HP:=Lh h
 have HLN:=Lh h.len
 have HN:=Lh hn
 have HM:=Lh (show n≤9223372036854775807 by omega)
 clear x0 x1 hb0 hb1 hbel hsz h hn
 go_enter_defers Tryz.func157,Tryz.ntmps157
 go_wp2
 rw [← hw1]
 clear hw1
 go_loopw [10,4,5,6] (fun i _ _ _ wr=>∃ (k:Nat) (A1:Option Addr) (c1:Nat) (ps:List Prt),k≤n∧i=.int .i64 k∧heldTo l k=some ps∧Blk wr w.heap.size 209 [.int .u32 0,.slice none 0 0]∧Blk wr (w.heap.size + 1) 270 [.slice A1 k c1]∧OwnPrts w wr (w.heap.size + 2) A1 k c1 ps∧Below w.heap.size w wr∧w.heap.size + 2≤wr.heap.size) (fun i _ _ _ _=>n - (intOf i).toNat)
 case atStart=>exact ⟨0,none,0,[],Nat.zero_le _,rfl,rfl,X0.out,X1.out,OwnPrts.nil _ _ _,BEL.out,Nat.le_of_eq HSZ.out.symm⟩
 case round =>
  obtain ⟨k,A1,c1,ps,hk,rfl,hps,hx0,hx1,hO,hB,hsz⟩:=hrel
  have hnM:=HM.out
  have hn100:=HN.out
  clear X0 X1 BEL HSZ
  by_cases hkn:k < n
  ·have hki:(k:Int) < (n:Int):=by omega
   obtain ⟨b,o,Ai,ni,ci,eA,hlt,hcs,hai⟩:=HP.out.at_ k hkn
   have e0:=(hB.cell (p:=⟨b,o + k,none⟩) hlt).trans hcs
   subst eA
   have PA:=Lh (part_any k (by omega) Ai ni ci (l.getD k none) w wr hai hB)
   obtain ⟨hpl,hps2⟩:=heldTo_small hps
   have K0:=Lh hx0
   have K1:=Lh hx1
   have O:=Lh hO
   have B:=Lh hB
   have AI:=Lh hai
   have HPS:=Lh hps
   have HPL:=Lh hpl
   clear hx0 hx1 hO hB hai hps hpl hps2 hcs
   go_wp2_with fail
   refine PA.out.mono ?_
   intro e w2 hor
   have hgo:(∃ p Ap cp,partO k (l.getD k none)=some p∧e=.returned (contV p.1 Ap p.2.length cp)∧Arg w .u8 Ap p.2.length cp p.2∧Below wr.heap.size wr w2)∨(partO k (l.getD k none)=none∧Panics wr e w2):=hor
   clear hor PA
   rcases hgo with ⟨p,Ap,cp,hp,rfl,hap,hb2⟩ | ⟨hp,⟨pv,rfl⟩,hb2⟩
   rotate_left
   ·skip
    have HST:=Lh (heldTo_none (heldTo_stop HPS.out hp) (show k + 1≤l.length by rw [HLN.out];omega))
    have BX:=Lh (B.out.trans (hb2.mono B.out.size))
    have K:=Lh (K0.out.below hb2 K0.out.lt)
    clear hb2 hp K0 K1 O B AI HPS e0
    go_wp2
    refine leaves_cons (f:=184) (args:=#[.pointer (some ⟨w.heap.size + 1,0,none⟩),.pointer (some ⟨w.heap.size,0,none⟩)]) (by simp) (by simp [go_sem]) ?_
    refine (catch_panicking _ _ 39 pv [] _).mono ?_
    rintro e u' w'' ⟨rfl,rfl,rfl⟩
    have z0:=K.out.cell 0
    have z1:=K.out.cell 1
    simp only [gcZ,gcS] at z0 z1
    have hV:slotV l=0∧slotB l=[]:=by unfold slotV slotB;rw [HST.out];exact ⟨rfl,rfl⟩
    rw [hV.1,hV.2]
    simp [Leaves,settle,results,Tryz.f157,go_sem,z0,z1]
    refine ⟨none,0,⟨rfl,rfl⟩,?_,BX.out⟩
    exact World.ownsRow_nil _ _ _ _
   obtain ⟨v,T⟩:=p
   dsimp only at hap ⊢
   obtain ⟨m,hm⟩:∃ x,x=T.length:=⟨_,rfl⟩
   rw [← hm] at hap ⊢
   have hb3:Below w2.heap.size w2 (w2.alloc (.cells #[.int .u32 v,.slice Ap m cp] 209)):=(Below.refl _ _).alloc (Nat.le_refl _) _
   have hbX:=hb2.trans (hb3.mono hb2.size)
   have y:=Blk.new w2 209 [.int .u32 v,.slice Ap m cp]
   have y0:=y.cell 0
   have y1:=y.cell 1
   simp only [gcZ,gcS] at y0 y1
   have K0:=Lh (K0.out.below hbX K0.out.lt)
   have K1:=Lh (K1.out.below hbX K1.out.lt)
   have O:=Lh (O.out.below hbX)
   have hszX:w.heap.size + 2≤(w2.alloc (.cells #[.int .u32 v,.slice Ap m cp] 209)).heap.size:=Nat.le_trans hsz hbX.size
   have B:=Lh (B.out.trans (hbX.mono B.out.size))
   have HAP:=Lh hap
   have HP2:=Lh hp
   have HM2:=Lh hm
   have Y:=Lh y
   clear hap hp hm hb2 hb3 hbX y e0
   by_cases hk0:k=0
   ·have hkn0:¬ (0:Int) < (k:Int):=by omega
    have HK0:=Lh hk0
    clear hk0
    go_upto_region 9 with fail
    obtain ⟨vX,hW⟩:∃ x:World,x=w2.alloc (.cells #[.int .u32 v,.slice Ap m cp] 209):=⟨_,rfl⟩
    rw [← hW] at K0 K1 O B Y y0 y1 hszX ⊢
    clear hW y0 y1
    have g0:=K1.out.cell 0
    have y0:=Y.out.cell 0
    have y1:=Y.out.cell 1
    simp only [gcZ,gcS] at g0 y0 y1
    go_wp2_with (at_builtin;go_must (refine wpList_prt w vX rfl (.tmp 27) (.tmp 29) rfl (w.heap.size + 2) A1 k c1 ps rfl O.out v Ap m cp T HAP.out rfl (by omega) hszX ?_);intro g9 c9 w9 ho9 hb9;have k1:=K1.out.below hb9 (Nat.lt_succ_self _);have b1:=k1.cell 0;have b2:=k1.free 0;simp only [gcZ] at b1;have K9:=Lh k1;have K8:=Lh (K0.out.below hb9 (Nat.lt_succ_of_lt (Nat.lt_succ_self _)));have O9:=Lh ho9;have B9:=Lh hb9;clear k1 ho9 hb9)
    go_roundw
    case rel=>exact ⟨k + 1,some ⟨g9,0,none⟩,c9,ps ++ [(v,T)],by omega,by go_num,heldTo_succ HPS.out HP2.out (.inl HK0.out),K8.out.away (show w.heap.size≠w.heap.size + 1 by omega) 0 _,K9.out.set 0 _,O9.out.off (Nat.lt_succ_self _) 0 _,(B.out.trans (B9.out.mono (Nat.le_add_right _ _))).setCell (p:=⟨w.heap.size + 1,0,none⟩) (Nat.le_succ _) _,Nat.le_trans hszX (by have:=B9.out.size;simpa [World.setCell] using this)⟩
    all_goals (try case measure=>simp [intOf];omega)
   ·have hkp0:(0:Int) < (k:Int):=by omega
    obtain ⟨j,rfl⟩:∃ j,k=j + 1:=⟨k - 1,by omega⟩
    have ewj:IntKind.i64.wrap (j:Int)=(j:Int):=Lib.wrap_i64_small j (by omega)
    have hj1:(j:Int) < ((j + 1:Nat):Int):=by omega
    have hj2:(j:Int) < (j:Int) + 1:=by omega
    have hj3:(0:Int)≤(j:Int):=by omega
    have hj4:¬ (j:Int) < 0:=by omega
    have hpr:=Prts.of_own O.out B.out
    obtain ⟨bb,Al,nl,cl,eA1,hltb,q0,q1,haj⟩:=hpr.at_ j (Nat.lt_succ_self _)
    subst eA1
    obtain ⟨pj,hpj⟩:∃ x,x=ps.getD j (0,[]):=⟨_,rfl⟩
    rw [← hpj] at q0 haj
    obtain ⟨vj,Tj⟩:=pj
    dsimp only at q0 haj
    have hnl:nl=Tj.length:=haj.len.symm
    subst hnl
    have FO:=Lh (follow_any v vj Ap Al cp cl T Tj)
    rw [← HM2.out] at FO
    have HPJ:=Lh hpj
    have g0:=K1.out.cell 0
    simp only [gcZ] at g0
    clear hpr haj hpj
    go_upto_region 8 with fail
    obtain ⟨v3,hW⟩:∃ x:World,x=w2.alloc (.cells #[.int .u32 v,.slice Ap m cp] 209):=⟨_,rfl⟩
    rw [← hW] at K0 K1 O B Y y0 y1 q0 q1 g0 hltb hszX ⊢
    clear hW
    go_still_tail 6,(by kernel_rfl)
    change wpList _ _ _ _ _ v3.drew
    go_wp2_with fail
    refine (FO.out v3.drew).mono ?_
    intro e w5 hor
    have hgo:(follows (v,T) (vj,Tj)∧e=.returned (.tuple #[])∧Below v3.heap.size v3 w5)∨(¬ follows (v,T) (vj,Tj)∧(∃ pv,e=.panicked [{ v:=.iface 39 pv,recovered:=false }])∧Below v3.heap.size v3 w5):=by
     have hd:Below v3.heap.size v3 v3.drew:=below_drewN (Below.refl _ _) 1
     rcases hor with ⟨h1,h2,h3⟩ | ⟨h1,h2,h3⟩
     ·exact .inl ⟨h1,h2,hd.trans (h3.mono hd.size)⟩
     ·exact .inr ⟨h1,h2,hd.trans (h3.mono hd.size)⟩
    clear hor FO g0 q0 q1 y0 y1
    rcases hgo with ⟨hfo,rfl,hb5⟩ | ⟨hfo,⟨pv,rfl⟩,hb5⟩
    rotate_left
    ·skip
     have HST:=Lh (heldTo_none (heldTo_stop2 HPS.out HP2.out (fun h=>h.elim (by omega) (fun h=>hfo (by rw [Nat.add_sub_cancel,← HPJ.out] at h;exact h)))) (show j + 1 + 1≤l.length by rw [HLN.out];omega))
     have BX:=Lh (B.out.trans (hb5.mono B.out.size))
     have K:=Lh (K0.out.below hb5 K0.out.lt)
     clear hb5 hfo K0 K1 O B AI HPS HP2 Y
     go_wp2
     refine leaves_cons (f:=184) (args:=#[.pointer (some ⟨w.heap.size + 1,0,none⟩),.pointer (some ⟨w.heap.size,0,none⟩)]) (by simp) (by simp [go_sem]) ?_
     refine (catch_panicking _ _ 39 pv [] _).mono ?_
     rintro e u' w'' ⟨rfl,rfl,rfl⟩
     have z0:=K.out.cell 0
     have z1:=K.out.cell 1
     simp only [gcZ,gcS] at z0 z1
     have hV:slotV l=0∧slotB l=[]:=by unfold slotV slotB;rw [HST.out];exact ⟨rfl,rfl⟩
     rw [hV.1,hV.2]
     simp [Leaves,settle,results,Tryz.f157,go_sem,z0,z1]
     refine ⟨none,0,⟨rfl,rfl⟩,?_,BX.out⟩
     exact World.ownsRow_nil _ _ _ _
    have HFO:=Lh (show follows (v,T) (ps.getD (j + 1 - 1) (0,[])) by rw [Nat.add_sub_cancel,← HPJ.out];exact hfo)
    have K0:=Lh (K0.out.below hb5 K0.out.lt)
    have K1:=Lh (K1.out.below hb5 K1.out.lt)
    have O:=Lh (O.out.below hb5)
    have hszX:=Nat.le_trans hszX hb5.size
    have B:=Lh (B.out.trans (hb5.mono B.out.size))
    have Y:=Lh (Y.out.below hb5 Y.out.lt)
    clear hb5 hfo
    go_upto_region 9 with fail
    obtain ⟨vX,hW⟩:∃ x:World,x=w5:=⟨_,rfl⟩
    rw [← hW] at K0 K1 O B Y hszX ⊢
    clear hW
    have g0:=K1.out.cell 0
    have y0:=Y.out.cell 0
    have y1:=Y.out.cell 1
    simp only [gcZ,gcS] at g0 y0 y1
    go_wp2_with (at_builtin;go_must (refine wpList_prt w vX rfl (.tmp 27) (.tmp 29) rfl (w.heap.size + 2) _ (j + 1) c1 ps rfl O.out v Ap m cp T HAP.out rfl (by omega) hszX ?_);intro g9 c9 w9 ho9 hb9;have k1:=K1.out.below hb9 (Nat.lt_succ_self _);have b1:=k1.cell 0;have b2:=k1.free 0;simp only [gcZ] at b1;have K9:=Lh k1;have K8:=Lh (K0.out.below hb9 (Nat.lt_succ_of_lt (Nat.lt_succ_self _)));have O9:=Lh ho9;have B9:=Lh hb9;clear k1 ho9 hb9)
    go_roundw
    case rel=>exact ⟨j + 1 + 1,some ⟨g9,0,none⟩,c9,ps ++ [(v,T)],by omega,by go_num,heldTo_succ HPS.out HP2.out (.inr HFO.out),K8.out.away (show w.heap.size≠w.heap.size + 1 by omega) 0 _,K9.out.set 0 _,O9.out.off (Nat.lt_succ_self _) 0 _,(B.out.trans (B9.out.mono (Nat.le_add_right _ _))).setCell (p:=⟨w.heap.size + 1,0,none⟩) (Nat.le_succ _) _,Nat.le_trans hszX (by have:=B9.out.size;simpa [World.setCell] using this)⟩
    all_goals (try case measure=>simp [intOf];omega)
  ·obtain rfl:k=n:=by omega
   have K0:=Lh hx0
   have K1:=Lh hx1
   have O:=Lh hO
   have B:=Lh hB
   have HPS:=Lh hps
   have a0:=hx0.cell 0
   have a1:=hx0.cell 1
   have f0:=hx0.free 0
   have f1:=hx0.free 1
   simp only [gcZ,gcS] at a0 a1
   clear hx0 hx1 hO hB hps
   go_wp2
   refine leaves_cons (f:=184) (args:=#[.pointer (some ⟨w.heap.size + 1,0,none⟩),.pointer (some ⟨w.heap.size,0,none⟩)]) (by simp) (by simp [go_sem]) ?_
   have hbz:Below w.heap.size w ((wr.setCell ⟨w.heap.size,0,none⟩ (.int .u32 0)).setCell ⟨w.heap.size,1,none⟩ (.slice none 0 0)):=below_two B.out (Nat.le_refl _) _ _
   have oz:=(O.out.off (show w.heap.size < w.heap.size + 2 by omega) 0 (.int .u32 0)).off (show w.heap.size < w.heap.size + 2 by omega) 1 (.slice none 0 0)
   have kz:=(K1.out.away (show w.heap.size + 1≠w.heap.size by omega) 0 (.int .u32 0)).away (show w.heap.size + 1≠w.heap.size by omega) 1 (.slice none 0 0)
   have rz:=K0.out.two (.int .u32 0) (.slice none 0 0)
   obtain ⟨hpl,hps2⟩:=heldTo_small HPS.out
   refine (catch_idle (w.heap.size + 1) w.heap.size A1 _ c1 ps _ (Prts.of_own oz hbz) hn100 (fun p hp=>Nat.le_trans (hps2 p hp) (by decide)) kz rz).mono ?_
   rintro e u' w'' ⟨rfl,rfl,A',c',w6,hown,hb6,rfl⟩
   have hV:slotV l=joinV ps∧slotB l=joinB ps:=by unfold slotV slotB;rw [HLN.out,HPS.out];exact ⟨rfl,rfl⟩
   rw [hV.1,hV.2]
   have r6:=rz.below hb6 rz.lt
   have r7:=r6.two (.int .u32 (joinV ps)) (.slice A' (joinB ps).length c')
   have z0:=r7.cell 0
   have z1:=r7.cell 1
   simp only [gcZ,gcS] at z0 z1
   have o1:=owns_other_box hown r6 (by decide) 0 (.int .u32 (joinV ps))
   have o2:=owns_other_box o1 (r6.set 0 (.int .u32 (joinV ps))) (by decide) 1 (.slice A' (joinB ps).length c')
   have BF:=Lh (below_two (hbz.trans (hb6.mono hbz.size)) (Nat.le_refl _) (.int .u32 (joinV ps)) (.slice A' (joinB ps).length c'))
   have OF:=Lh (owns_base o2 hbz.size)
   clear hbz oz kz rz hps2 hpl hown hb6 r6 r7 o1 o2 a0 a1 f0 f1
   simp [Leaves,settle,results,Tryz.f157,go_sem,z0,z1]
   exact ⟨A',c',⟨rfl,rfl⟩,OF.out,BF.out⟩
theorem Opts.sub {w:World} {b o n c m s:Nat} {l:List (Option Txt)} (h:Opts w (some ⟨b,o,none⟩) n c l) (hs:s + m≤n):Opts w (some ⟨b,o + s,none⟩) m m ((l.drop s).take m):=by
 have hl:=h.len
 have hc:=h.cap
 have hm:=h.max
 refine ⟨by rw [List.length_take,List.length_drop];omega,Nat.le_refl _,by omega,fun i hi=>?_⟩
 obtain ⟨b',o',Ai,ni,ci,e,hlt,hcs,ha⟩:=h.at_ (s + i) (by omega)
 injection e with e
 injection e with e1 e2 _
 subst e1
 subst e2
 refine ⟨b,o + s,Ai,ni,ci,rfl,hlt,by rw [Nat.add_assoc];exact hcs,?_⟩
 have e3:((l.drop s).take m).getD i none=l.getD (s + i) none:=by
  rw [gtD,gtD,List.getElem?_take_of_lt hi,List.getElem?_drop]
 rw [e3]
 exact ha
theorem slot0_any (b o n c m:Nat) (w:World) (hn:n=2 * m) (hm1:1≤m) (hm:m≤100) (hc:n≤c) (hcm:c≤maxLen) :
  Calls Tryz.prog 158 #[.slice (some ⟨b,o,none⟩) n c,.int .i64 0] w fun e w'=>e=.returned (.slice (some ⟨b,o,none⟩) m m)∧w'=w:=by
 have hq:(n:Int) / 2=(m:Int):=by omega
 have hq2:n / 2=m:=by omega
 have hm0:(0:Int)≤(m:Int):=by omega
 have hm2:(m:Int)≤2 * (m:Int):=by omega
 have hmc:(m:Int)≤(c:Int):=by omega
 unfold maxLen at hcm
 clear hn
 go_enter Tryz.func158,Tryz.ntmps158
 go_wp2
 go_ret
 exact ⟨rfl,rfl⟩
theorem slot1_any (b o n c m:Nat) (w:World) (hn:n=2 * m) (hm1:1≤m) (hm:m≤100) (hc:n≤c) (hcm:c≤maxLen) :
  Calls Tryz.prog 158 #[.slice (some ⟨b,o,none⟩) n c,.int .i64 1] w fun e w'=>e=.returned (.slice (some ⟨b,o + m,none⟩) m m)∧w'=w:=by
 have hq:(n:Int) / 2=(m:Int):=by omega
 have hq2:n / 2=m:=by omega
 have hm0:(0:Int)≤(m:Int):=by omega
 have hm2:(m:Int)≤2 * (m:Int):=by omega
 have hmc:(2:Int) * (m:Int)≤(c:Int):=by omega
 unfold maxLen at hcm
 have hmm:2 * m - m=m:=by omega
 clear hn
 go_enter Tryz.func158,Tryz.ntmps158
 go_wp2
 go_ret
 refine ⟨?_,rfl⟩
 show Ending.returned (Value.slice (some ⟨b,o + m,none⟩) (2 * m - m) (2 * m - m))=_
 rw [hmm]
def hV (m:Nat) (l:List (Option Txt)):Int:=if slotV (l.take m)=0∨slotV (l.take m) < slotV (l.drop m) then slotV (l.drop m) else slotV (l.take m)
def hB (m:Nat) (l:List (Option Txt)):Txt:=if slotV (l.take m)=0∨slotV (l.take m) < slotV (l.drop m) then slotB (l.drop m) else slotB (l.take m)
def hF (m:Nat) (l:List (Option Txt)):Int:=if slotV (l.take m)=0∨slotV (l.take m) < slotV (l.drop m) then 0 else 1
theorem held_any (b o n c m:Nat) (l:List (Option Txt)) (w:World) (h:Opts w (some ⟨b,o,none⟩) n c l) (hn:n=2 * m) (hm1:1≤m) (hm:m≤50) :
  Calls Tryz.prog 122 #[.slice (some ⟨b,o,none⟩) n c] w fun e w'=>∃ A' c',e=.returned (.tuple #[contV (hV m l) A' (hB m l).length c',.int .i64 (hF m l)])∧w'.ownsRow w.heap.size 5 1 (.slice A' (hB m l).length c') (hB m l).length (ints .u8 (hB m l))∧Below w.heap.size w w':=by
 have x:=Blk.new w 209 [.int .u32 0,.slice none 0 0]
 have hb0:Below w.heap.size w (w.alloc (.cells #[.int .u32 0,.slice none 0 0] 209)):=(Below.refl _ _).alloc (Nat.le_refl _) _
 have X:=Lh x
 have B:=Lh hb0
 have S0:=Lh (fun w=>slot0_any b o n c m w hn hm1 (by omega) h.cap h.max)
 have S1:=Lh (fun w=>slot1_any b o n c m w hn hm1 (by omega) h.cap h.max)
 have l0:=(h.sub (m:=m) (s:=0) (by omega))
 have l1:=(h.sub (m:=m) (s:=m) (by omega))
 rw [Nat.add_zero,List.drop_zero] at l0
 have e1:(l.drop m).take m=l.drop m:=List.take_of_length_le (by rw [List.length_drop,h.len];omega)
 rw [e1] at l1
 have C0:=Lh (fun wx (hx:Below w.heap.size w wx)=>content_any (some ⟨b,o,none⟩) m m (l.take m) wx (l0.below hx) (by omega))
 have C1:=Lh (fun wx (hx:Below w.heap.size w wx)=>content_any (some ⟨b,o + m,none⟩) m m (l.drop m) wx (l1.below hx) (by omega))
 clear x hb0 h hn hm1 hm l0 l1 e1
 unfold hV hB hF
 obtain ⟨v0,hv0⟩:∃ x,x=slotV (l.take m):=⟨_,rfl⟩
 obtain ⟨b0,hb0⟩:∃ x,x=slotB (l.take m):=⟨_,rfl⟩
 obtain ⟨v1,hv1⟩:∃ x,x=slotV (l.drop m):=⟨_,rfl⟩
 obtain ⟨b1,hb1⟩:∃ x,x=slotB (l.drop m):=⟨_,rfl⟩
 rw [← hv0,← hb0] at C0
 rw [← hv1,← hb1] at C1
 rw [← hv0,← hb0,← hv1,← hb1]
 clear hv0 hb0 hv1 hb1
 obtain ⟨rv,hrv⟩:∃ x,x=if v0=0∨v0 < v1 then v1 else v0:=⟨_,rfl⟩
 obtain ⟨rb,hrb⟩:∃ x,x=if v0=0∨v0 < v1 then b1 else b0:=⟨_,rfl⟩
 obtain ⟨rf,hrf⟩:∃ x,x=if v0=0∨v0 < v1 then (0:Int) else 1:=⟨_,rfl⟩
 rw [← hrv,← hrb,← hrf]
 have HY:=Lh (show v0=0∨v0 < v1→rv=v1∧rb=b1∧rf=0 from fun h=>by rw [if_pos h] at hrv hrb hrf;exact ⟨hrv,hrb,hrf⟩)
 have HX:=Lh (show ¬ (v0=0∨v0 < v1)→rv=v0∧rb=b0∧rf=1 from fun h=>by rw [if_neg h] at hrv hrb hrf;exact ⟨hrv,hrb,hrf⟩)
 clear hrv hrb hrf
 obtain ⟨n0,hn0⟩:∃ x,x=b0.length:=⟨_,rfl⟩
 obtain ⟨n1,hn1⟩:∃ x,x=b1.length:=⟨_,rfl⟩
 rw [← hn0] at C0
 rw [← hn1] at C1
 have HN0:=Lh hn0
 have HN1:=Lh hn1
 clear hn0 hn1
 go_enter Tryz.func122,Tryz.ntmps122
 go_wp2_with fail
 refine (S0.out _).mono ?_
 rintro e w' ⟨rfl,rfl⟩
 go_wp2_with fail
 refine (C0.out _ B.out).mono ?_
 rintro e w2 ⟨A0,c0,rfl,hown0,hb2⟩
 have B2:=Lh (B.out.trans (hb2.mono B.out.size))
 have X2:=Lh (X.out.below hb2 X.out.lt)
 have O0:=Lh (owns_base hown0 B.out.size)
 clear hown0 hb2 X B S0
 go_wp2_with fail
 refine (S1.out _).mono ?_
 rintro e w' ⟨rfl,rfl⟩
 go_wp2_with fail
 refine (C1.out _ B2.out).mono ?_
 rintro e w3 ⟨A1,c1,rfl,hown1,hb3⟩
 have B3:=Lh (B2.out.trans (hb3.mono B2.out.size))
 have X3:=Lh (X2.out.below hb3 X2.out.lt)
 have O0:=Lh (owns_below O0.out hb3)
 have O1:=Lh (owns_base hown1 B2.out.size)
 clear hown1 hb3 X2 B2 S1 C0 C1
 have y0:=Blk.new w3 209 [.int .u32 v0,.slice A0 n0 c0]
 have hb4:Below w3.heap.size w3 (w3.alloc (.cells #[.int .u32 v0,.slice A0 n0 c0] 209)):=(Below.refl _ _).alloc (Nat.le_refl _) _
 have y1:=Blk.new (w3.alloc (.cells #[.int .u32 v0,.slice A0 n0 c0] 209)) 209 [.int .u32 v1,.slice A1 n1 c1]
 have hb5:Below (w3.alloc (.cells #[.int .u32 v0,.slice A0 n0 c0] 209)).heap.size (w3.alloc (.cells #[.int .u32 v0,.slice A0 n0 c0] 209)) ((w3.alloc (.cells #[.int .u32 v0,.slice A0 n0 c0] 209)).alloc (.cells #[.int .u32 v1,.slice A1 n1 c1] 209)):=(Below.refl _ _).alloc (Nat.le_refl _) _
 have y0:=y0.below hb5 y0.lt
 have hb6:=hb4.trans (hb5.mono hb4.size)
 rw [World.size_alloc] at y1
 go_upto_region 2 with fail
 obtain ⟨w4,hW⟩:∃ x:World,x=(w3.alloc (.cells #[.int .u32 v0,.slice A0 n0 c0] 209)).alloc (.cells #[.int .u32 v1,.slice A1 n1 c1] 209):=⟨_,rfl⟩
 rw [← hW] at y0 y1 hb6 ⊢
 clear hW hb4 hb5
 have x4:=X3.out.below hb6 X3.out.lt
 have X4:=Lh x4
 have B4:=Lh (B3.out.trans (hb6.mono B3.out.size))
 have O0:=Lh (owns_below O0.out hb6)
 have O1:=Lh (owns_below O1.out hb6)
 have p0:=y0.cell 0
 have p1:=y0.cell 1
 have q0:=y1.cell 0
 have q1:=y1.cell 1
 have r0:=x4.cell 0
 have r1:=x4.cell 1
 have f0:=x4.free 0
 have f1:=x4.free 1
 simp only [gcZ,gcS] at p0 p1 q0 q1 r0 r1
 clear y0 y1 hb6 x4 X3 B3
 by_cases hz:v0=0
 ·have HR:=Lh (HY.out (.inl hz))
  have hz2:(v0 == 0)=true:=beq_iff_eq.2 hz
  clear hz
  obtain ⟨rfl,rfl,rfl⟩:=HR.out
  go_wp2
  have z:=X4.out.two (.int .u32 rv) (.slice A1 n1 c1)
  have z0:=z.cell 0
  have z1:=z.cell 1
  simp only [gcZ,gcS] at z0 z1
  have o1:=owns_other_box O1.out X4.out (by decide) 0 (.int .u32 rv)
  have o2:=owns_other_box o1 (X4.out.set 0 (.int .u32 rv)) (by decide) 1 (.slice A1 n1 c1)
  refine bodyPost_ret (v:=.tuple #[contV rv A1 n1 c1,.int .i64 0]) ?_ rfl ⟨A1,c1,by rw [HN1.out],by rw [← HN1.out];exact o2,below_two B4.out (Nat.le_refl _) _ _⟩
  clear p0 p1 q0 q1 r0 r1 f0 f1
  simp [results,Tryz.f122,go_sem,z0,z1]
 ·have hz2:(v0 == 0)=false:=beq_eq_false_iff_ne.2 hz
  by_cases hl:v0 < v1
  ·have HR:=Lh (HY.out (.inr hl))
   clear hz
   obtain ⟨rfl,rfl,rfl⟩:=HR.out
   go_wp2
   have z:=X4.out.two (.int .u32 rv) (.slice A1 n1 c1)
   have z0:=z.cell 0
   have z1:=z.cell 1
   simp only [gcZ,gcS] at z0 z1
   have o1:=owns_other_box O1.out X4.out (by decide) 0 (.int .u32 rv)
   have o2:=owns_other_box o1 (X4.out.set 0 (.int .u32 rv)) (by decide) 1 (.slice A1 n1 c1)
   refine bodyPost_ret (v:=.tuple #[contV rv A1 n1 c1,.int .i64 0]) ?_ rfl ⟨A1,c1,by rw [HN1.out],by rw [← HN1.out];exact o2,below_two B4.out (Nat.le_refl _) _ _⟩
   clear p0 p1 q0 q1 r0 r1 f0 f1
   simp [results,Tryz.f122,go_sem,z0,z1]
  ·have HR:=Lh (HX.out (fun h=>h.elim hz hl))
   clear hz
   obtain ⟨rfl,rfl,rfl⟩:=HR.out
   go_wp2
   have z:=X4.out.two (.int .u32 rv) (.slice A0 n0 c0)
   have z0:=z.cell 0
   have z1:=z.cell 1
   simp only [gcZ,gcS] at z0 z1
   have o1:=owns_other_box O0.out X4.out (by decide) 0 (.int .u32 rv)
   have o2:=owns_other_box o1 (X4.out.set 0 (.int .u32 rv)) (by decide) 1 (.slice A0 n0 c0)
   refine bodyPost_ret (v:=.tuple #[contV rv A0 n0 c0,.int .i64 1]) ?_ rfl ⟨A0,c0,by rw [HN0.out],by rw [← HN0.out];exact o2,below_two B4.out (Nat.le_refl _) _ _⟩
   clear p0 p1 q0 q1 r0 r1 f0 f1
   simp [results,Tryz.f122,go_sem,z0,z1]
end Go.Proofs.YtifgcfepbenpjaaGreat
