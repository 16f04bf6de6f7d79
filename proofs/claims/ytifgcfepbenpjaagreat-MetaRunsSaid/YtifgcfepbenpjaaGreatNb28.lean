/- Texts of layers 1 to 12, joined. -/
import Derived.Test.YtifgcfepbenpjaaGreatNb27
import Derived.KernelRfl
import Derived.Deep.RegionHeld3
set_option maxRecDepth 100000
set_option maxHeartbeats 12800000
set_option linter.unusedVariables false
namespace Go.Proofs.YtifgcfepbenpjaaGreat
open Go.RowKit
def PutOut (w:World) (x:Option (List Rc)) (e:Ending) (w':World):Prop:=∃ A' c',e=.returned (.tuple #[.slice A' (ansL x).length c',.int .i64 (ansE x)])∧OwnRecs w' w.heap.size A' (ansL x).length c' (ansL x)∧Below w.heap.size w w'
def NotesOut (w:World) (x:List Txt) (E:Int) (e:Ending) (w':World):Prop:=∃ A' c',e=.returned (.tuple #[.slice A' x.length c',.int .i64 E])∧OwnTexts w' w.heap.size A' x.length c' x∧Below w.heap.size w w'
abbrev noteV (g n:Int) (A:Option Addr) (k c:Nat):Value:=.iface 219 (.agg #[.int .u64 g,.int .i64 n,.slice A k c])
abbrev faultV (E:Int):Value:=.iface 220 (.int .i64 E)
theorem noteof_yes (g n:Int) (A:Option Addr) (k c:Nat) (w:World) (h1:1≤k) (h20:k≤20) (hn:0≤n∧n≤255) :
  Calls Tryz.prog 179 #[.int .u64 g,.int .i64 n,.slice A k c] w fun e w'=>e=.returned (noteV g n A k c)∧w'=w:=by
 have a1:¬ ((k:Int) < 1):=by omega
 have a2:¬ (20 < (k:Int)):=by omega
 have a3:¬ (n < 0):=by omega
 have a4:¬ (255 < n):=by omega
 go_enter Tryz.func179,Tryz.ntmps179
 go_wp2
 go_ret
 exact ⟨rfl,rfl⟩
theorem noteof_no (g n:Int) (A:Option Addr) (k c:Nat) (b:Txt) (w:World) (hk:b.length=k) (hE:jtE n b≠0) :
  Calls Tryz.prog 179 #[.int .u64 g,.int .i64 n,.slice A k c] w fun e w'=>e=.returned (faultV (jtE n b))∧w'=w:=by
 unfold jtE at hE ⊢
 rw [hk] at hE ⊢
 by_cases h1:1≤k∧k≤20
 ·rw [if_pos h1] at hE ⊢
  have hn:¬ (0≤n∧n≤255):=fun h=>hE (if_pos h)
  rw [if_neg hn]
  have a1:¬ ((k:Int) < 1):=by omega
  have a2:¬ (20 < (k:Int)):=by omega
  clear hE hk
  by_cases h3:n < 0
  ·clear hn h1
   go_enter Tryz.func179,Tryz.ntmps179
   go_wp2
   go_ret
   exact ⟨rfl,rfl⟩
  ·have a4:255 < n:=by omega
   clear hn h1
   go_enter Tryz.func179,Tryz.ntmps179
   go_wp2
   go_ret
   exact ⟨rfl,rfl⟩
 ·rw [if_neg h1]
  clear hE hk
  by_cases h3:(k:Int) < 1
  ·clear h1
   go_enter Tryz.func179,Tryz.ntmps179
   go_wp2
   go_ret
   exact ⟨rfl,rfl⟩
  ·have a2:20 < (k:Int):=by omega
   clear h1
   go_enter Tryz.func179,Tryz.ntmps179
   go_wp2
   go_ret
   exact ⟨rfl,rfl⟩
theorem jsizes_any (w:World):Calls Tryz.prog 188 #[] w fun e w'=>∃ g,e=.returned (.slice (some ⟨g,0,none⟩) 5 5)∧Arg w' .i64 (some ⟨g,0,none⟩) 5 5 sz5∧Below w.heap.size w w':=by
 have hml:5≤maxLen:=by decide
 have HA:=Lh (show Arg (w.alloc (.cells #[.int .i64 8,.int .i64 1,.int .i64 1,.int .i64 1,.int .i64 1] 3)) .i64 (some ⟨w.heap.size,0,none⟩) 5 5 sz5 from ⟨lit_row w 3 .i64 sz5 _ _ _ rfl rfl (by simp),rfl,Nat.le_refl _,hml⟩)
 go_enter Tryz.func188,Tryz.ntmps188
 go_wp2
 go_ret
 exact ⟨_,rfl,HA.out,(Below.refl _ _).alloc (Nat.le_refl _) _⟩
theorem ftext_any (E:Int) (w:World):Calls Tryz.prog 231 #[.int .i64 E] w fun e w'=>e=.returned (.tuple #[.slice none 0 0,.int .i64 E])∧w'=w:=by
 go_enter Tryz.func231,Tryz.ntmps231
 go_wp2
 go_ret2
 exact ⟨rfl,rfl⟩
theorem jsplice_row (g n m:Int):splice (ints .u8 noughts) 0 (ints .u8 (jrow g n m))=ints .u8 (jrow g n m ++ List.replicate 20 0):=by
 have hl:(jrow g n m).length=12:=jrow_length g n m
 simp [splice,ints,noughts,hl]
theorem jsplice_part (r b:Txt) (hr:r.length=12) (hb:b.length≤20):splice (ints .u8 (r ++ List.replicate 20 0)) 12 (ints .u8 b)=ints .u8 (r ++ b ++ List.replicate (20 - b.length) 0):=by
 have h1:(ints .u8 (r ++ List.replicate 20 0)).take 12=ints .u8 r:=by
  unfold ints
  rw [← List.map_take,List.take_append_of_le_length (by omega),List.take_of_length_le (by omega)]
 have h2:(ints .u8 (r ++ List.replicate 20 0)).drop (12 + (ints .u8 b).length)=ints .u8 (List.replicate (20 - b.length) 0):=by
  rw [ints_length]
  unfold ints
  rw [← List.map_drop,List.drop_append,List.drop_of_length_le (by omega),List.nil_append,List.drop_replicate,show 20 - (12 + b.length - r.length)=20 - b.length from by omega]
 unfold splice
 rw [h1,h2]
 simp [ints]
theorem nums_note (w:World) (g n:Int) (k:Nat) (b B:Nat) (hb:b=w.heap.size) (hB:w.heap.size < B):Seq (w.alloc (.cells #[.int .u64 g,.int .u64 1,.int .u64 n,.int .u64 (k:Int),.int .u64 0] 27)) B (some ⟨b,0,none⟩) (ints .u64 [g,1,n,(k:Int),0]):=lit_row w 27 .u64 [g,1,n,(k:Int),0] _ _ _ rfl hb hB
theorem ntext_any (g n:Int) (hg:isG g) (hn:0≤n∧n≤255) (A:Option Addr) (k c:Nat) (b:Txt) (w:World) (hb:Arg w .u8 A k c b) (hk:k≤20) :
  Calls Tryz.prog 230 #[.agg #[.int .u64 g,.int .i64 n,.slice A k c]] w fun e w'=>∃ G,e=.returned (.tuple #[.slice (some ⟨G,0,none⟩) 32 32,.int .i64 0])∧w'.ownsRow w.heap.size 5 1 (.slice (some ⟨G,0,none⟩) 32 32) 32 (ints .u8 (jT g n b))∧Below w.heap.size w w':=by
 have x:=Blk.new w 219 [.int .u64 g,.int .i64 n,.slice A k c]
 have hbel:Below w.heap.size w (w.alloc (.cells #[.int .u64 g,.int .i64 n,.slice A k c] 219)):=(Below.refl _ _).alloc (Nat.le_refl _) _
 have hlen:=hb.len
 have FT:=Lh (show fitsTo [g,1,n,(k:Int),0] sz5 sz5.length=true from fits5 hg ⟨hn.1,by omega⟩ ⟨by omega,by omega⟩)
 obtain ⟨hg0,hg1⟩:=hg
 have W1:=Lh (show ∀ z ∈ [g,1,n,(k:Int),0],isWord z by
  intro z hz
  simp only [List.mem_cons,List.not_mem_nil,or_false] at hz
  unfold isWord
  rcases hz with rfl | rfl | rfl | rfl | rfl <;> omega)
 have X:=Lh x
 have BL:=Lh hbel
 have HB:=Lh (hb.below hbel)
 have e2:IntKind.u64.wrap n=n:=wraps_u64 n hn.1 (by omega)
 have e3:IntKind.u64.wrap (k:Int)=(k:Int):=wraps_u64 _ (by omega) (by omega)
 have HJ:=Lh (show jT g n b=jrow g n k ++ b ++ List.replicate (20 - b.length) 0 by unfold jT;rw [hlen])
 rw [HJ.out]
 have HLB:=Lh (show b.length≤20 by omega)
 clear x hbel hg0 hg1 hn hb HJ
 go_enter Tryz.func230,Tryz.ntmps230
 go_upto_region 1 with fail
 obtain ⟨v1,hW⟩:∃ x:World,x=w.alloc (.cells #[.int .u64 g,.int .i64 n,.slice A k c] 219):=⟨_,rfl⟩
 rw [← hW] at X BL HB ⊢
 have hlt:w.heap.size < v1.heap.size:=X.out.lt
 clear hW
 have hcur:Below v1.heap.size v1 v1.drew:=below_drewN (Below.refl _ _) 1
 have keepX:∀ wx,Below v1.heap.size v1 wx→wx.cell? ⟨w.heap.size,0,none⟩=some (.int .u64 g)∧wx.cell? ⟨w.heap.size,1,none⟩=some (.int .i64 n)∧wx.cell? ⟨w.heap.size,2,none⟩=some (.slice A k c):=fun wx hx=>by
  have z:=X.out.below hx hlt
  exact ⟨z.cell 0,z.cell 1,z.cell 2⟩
 have hkX:=keepX _ hcur
 go_region_held3 (fun wx=>wx.cell? ⟨w.heap.size,0,none⟩=some (.int .u64 g)∧wx.cell? ⟨w.heap.size,1,none⟩=some (.int .i64 n)∧wx.cell? ⟨w.heap.size,2,none⟩=some (.slice A k c))
  (first | exact hkX | exact keepX _ (hcur.alloc hcur.size _) | exact keepX _ (below_drewN ((Below.refl _ _).alloc (Nat.le_refl _) _) 1) | go_keep)
  (first
   | (go_at_call 188;with_reducible refine (jsizes_any v1.drew).mono ?_;rintro e wS ⟨gS,rfl,hAS,hbS⟩;have hcur:=hcur.trans (hbS.mono hcur.size);have hkX:=keepX _ hcur)
   | (go_at_call 188;have hL:=nums_note v1 g n k v1.heap.size (v1.heap.size + 1) rfl (Nat.lt_succ_self _);have hcur:Below v1.heap.size v1 (v1.alloc (.cells #[.int .u64 g,.int .u64 1,.int .u64 n,.int .u64 (k:Int),.int .u64 0] 27)).drew:=below_drewN ((Below.refl _ _).alloc (Nat.le_refl _) _) 1;have hL:Seq (v1.alloc (.cells #[.int .u64 g,.int .u64 1,.int .u64 n,.int .u64 (k:Int),.int .u64 0] 27)).drew (v1.heap.size + 1) (some ⟨v1.heap.size,0,none⟩) (ints .u64 [g,1,n,(k:Int),0]):=hL.keep fun _ _=>rfl;with_reducible refine (jsizes_any _).mono ?_;rintro e wS ⟨gS,rfl,hAS,hbS⟩;have hL:=(hL.below (hbS.mono (by simp))).more (B':=wS.heap.size) (Nat.le_trans (by simp) hbS.size);have hcur:=hcur.trans (hbS.mono hcur.size);have hkX:=keepX _ hcur)
   | (go_at_call 74;with_reducible refine (write_ok (some ⟨v1.heap.size,0,none⟩) (some ⟨gS,0,none⟩) 5 5 5 5 [g,1,n,(k:Int),0] sz5 _ hAS.seq rfl okB_sz5 hL rfl rfl W1.out).mono ?_;intro e w2 hout;have hM:=hcur.size;obtain ⟨A2,c2,rfl,hown,hb⟩:=(WroteOut.yes hout FT.out).len (zs':=jrow g n k) (n:=12) rfl (jrow_length _ _ _);have hcur:=hcur.trans (hb.mono hcur.size);have hkX:=keepX _ hcur)
   | (go_at_call 74;have hL:=nums_note wS g n k wS.heap.size (wS.heap.size + 1) rfl (Nat.lt_succ_self _);have hL:=hL.more (B':=(wS.alloc (.cells #[.int .u64 g,.int .u64 1,.int .u64 n,.int .u64 (k:Int),.int .u64 0] 27)).heap.size) (by simp);have hAS:=hAS.below ((Below.refl wS.heap.size wS).alloc (Nat.le_refl _) (.cells #[.int .u64 g,.int .u64 1,.int .u64 n,.int .u64 (k:Int),.int .u64 0] 27));have hcur:=hcur.alloc hcur.size (.cells #[.int .u64 g,.int .u64 1,.int .u64 n,.int .u64 (k:Int),.int .u64 0] 27);with_reducible refine (write_ok (some ⟨wS.heap.size,0,none⟩) (some ⟨gS,0,none⟩) 5 5 5 5 [g,1,n,(k:Int),0] sz5 _ hAS.seq rfl okB_sz5 hL rfl rfl W1.out).mono ?_;intro e w2 hout;have hM:=hcur.size;obtain ⟨A2,c2,rfl,hown,hb⟩:=(WroteOut.yes hout FT.out).len (zs':=jrow g n k) (n:=12) rfl (jrow_length _ _ _);have hcur:=hcur.trans (hb.mono hcur.size);have hkX:=keepX _ hcur))
 all_goals (
  have B2:=Lh (BL.out.trans (hcur.mono BL.out.size))
  have X2:=Lh (X.out.below hcur hlt)
  have HB2:=Lh (HB.out.below hcur)
  have R2:=Lh (Arg.own hown)
  have hG0:=Nat.le_trans BL.out.size hcur.size
  clear hcur hkX keepX hM hb hown FT W1 X BL HB hAS
  have hmk:=make_bytes 32 (by decide) w2
  rw [show ((32:Nat):Int)=32 from rfl] at hmk
  have y:=Blk.new w2 5 (List.replicate 32 (.int .u8 0))
  rw [noughts_ints] at y
  have hbl1:Below w2.heap.size w2 (w2.alloc (.cells (List.replicate 32 (.int .u8 0)).toArray 5)):=(Below.refl _ _).alloc (Nat.le_refl _) _
  rw [noughts_ints] at hmk hbl1
  obtain ⟨v2,hV⟩:∃ x:World,x=w2.alloc (.cells (ints .u8 noughts).toArray 5):=⟨_,rfl⟩
  rw [← hV] at hmk y hbl1
  have Y:=Lh y
  have R3:=Lh (R2.out.below hbl1)
  have BV:=Lh hbl1
  have HG:=Lh hG0
  have HLEN:=Lh (show (ints .u8 (jrow g n k)).length=Nat.min 12 32 by rw [ints_length,jrow_length];decide)
  have HFIT:=Lh (show 0 + (ints .u8 (jrow g n k)).length≤(ints .u8 noughts).length by rw [ints_length,ints_length,jrow_length];decide)
  have HLE2:=Lh (show (ints .u8 b).length=Nat.min k 20 by rw [ints_length,HB2.out.len];exact (Nat.min_eq_left hk).symm)
  have HFI2:=Lh (show 12 + (ints .u8 b).length≤(ints .u8 (jrow g n k ++ List.replicate 20 0)).length by rw [ints_length,ints_length,HB2.out.len,List.length_append,jrow_length,List.length_replicate];omega)
  clear hV hbl1 y R2 hG0
  go_wp2_with (with_reducible refine wpList_copy_seq (o:=⟨some 25,_,_,_,_,_⟩) rfl (.tmp 23) (.tmp 24) _ _ rfl 5 Tryz.underlying42 byte_size A2 w2.heap.size 0 32 32 12 c2 rfl rfl (ints .u8 noughts) 5 Y.out (ints .u8 (jrow g n k)) HLEN.out _ R3.out.seq HFIT.out (ints_one _ _) w2.heap.size w2 BV.out (Nat.le_refl _) ?_;intro w4 HG4 hB4)
  have X4:=Lh (X2.out.below hB4 X2.out.lt)
  have R4:=Lh (HB2.out.below hB4)
  have Y4:=HG4.out
  rw [jsplice_row] at Y4
  have Y4:=Lh Y4
  have B4:=Lh hB4
  have q2:=X4.out.cell 2
  simp only [gcZ,gcS] at q2
  clear HG4 hB4 hmk R3 Y BV HLEN HFIT
  go_still_tail 4,(by kernel_rfl)
  change wpList _ _ _ _ _ w4.drew
  have YD:=Lh (show Blk w4.drew w2.heap.size 5 (ints .u8 (jrow g n k ++ List.replicate 20 0)) from Y4.out)
  have RD:=Lh (show Seq w4.drew w4.heap.size A (ints .u8 b) from R4.out.seq.keep fun _ _=>rfl)
  have BD:=Lh (show Below w.heap.size w w4.drew from below_drewN (B2.out.trans (B4.out.mono B2.out.size)) 1)
  clear X4 q2 Y4 R4 B2 B4 X2 HB2
  go_wp2_with (with_reducible refine wpList_copy_seq (o:=⟨some 30,_,_,_,_,_⟩) rfl (.tmp 27) (.tmp 29) _ _ rfl 5 Tryz.underlying42 byte_size A w2.heap.size 12 20 20 k c rfl rfl (ints .u8 (jrow g n k ++ List.replicate 20 0)) 5 YD.out (ints .u8 b) HLE2.out _ RD.out HFI2.out (ints_one _ _) w.heap.size w BD.out HG.out ?_;intro w5 HG5 hB5)
  go_ret2
  have hb5:=HG5.out
  rw [jsplice_part _ _ (jrow_length _ _ _) HLB.out] at hb5
  exact ⟨w2.heap.size,rfl,hb5.owns HG.out (by rw [ints_length];have:=HLB.out;simp only [List.length_append,jrow_length,List.length_replicate];omega) (by decide),hB5⟩)
def rdM (t:Txt):Nat:=min (t.getD 10 0).toNat 20
def rdTx (t:Txt):Txt:=(t.drop 12).take (rdM t)
def rdOk (t:Txt):Prop:=1≤t.getD 10 0∧jT (val (t.take 8)) (t.getD 9 0) (rdTx t)=t
theorem rdM_le (t:Txt):rdM t≤20:=Nat.min_le_right _ _
theorem rdTx_length {t:Txt} (h:t.length=32):(rdTx t).length=rdM t:=by
 unfold rdTx
 rw [List.length_take,List.length_drop,h]
 have:=rdM_le t
 omega
theorem rdTx_byte {t:Txt} (h:∀ z ∈ t,isByte z):∀ z ∈ rdTx t,isByte z:=fun z hz=>h z (List.mem_of_mem_drop (List.mem_of_mem_take hz))
theorem nums5_eq (t:Txt) (ht:t.length=32):numsTo (t.take 12) sz5 5=[val (t.take 8),t.getD 8 0,t.getD 9 0,t.getD 10 0,t.getD 11 0]:=by
 have h:numsTo (t.take 12) sz5 5=(((([] ++ [val (((t.take 12).drop 0).take 8)]) ++ [val (((t.take 12).drop 8).take 1)]) ++ [val (((t.take 12).drop 9).take 1)]) ++ [val (((t.take 12).drop 10).take 1)]) ++ [val (((t.take 12).drop 11).take 1)]:=rfl
 rw [h]
 simp only [List.drop_take,List.take_take,List.drop_zero,List.nil_append,List.cons_append]
 show [val (t.take 8),val ((t.drop 8).take 1),val ((t.drop 9).take 1),val ((t.drop 10).take 1),val ((t.drop 11).take 1)]=_
 rw [val_one (by omega),val_one (by omega),val_one (by omega),val_one (by omega)]
theorem gen_of {t:Txt} (ht:t.length=32) (hb:∀ z ∈ t,isByte z):isG (val (t.take 8)):=by
 have h:=val_bounds (t.take 8) fun z hz=>hb z (List.mem_of_mem_take hz)
 rw [List.length_take,ht] at h
 have h8:(256:Int) ^ (min 8 32)=18446744073709551616:=by decide
 rw [h8] at h
 exact h
theorem rd_note {t:Txt} (ht:t.length=32) (hb:∀ z ∈ t,isByte z) {g n:Int} (hg:isG g) (hn:0≤n∧n≤255) :
  (rdOk t→noteT g n t=if g=val (t.take 8)∧n=t.getD 9 0 then rdTx t else [])∧(¬ rdOk t→noteT g n t=[]):=by
 have hmb:=byte_getD hb 10
 unfold isByte at hmb
 have hkey:∀ g' n':Int,isG g'→(0≤n'∧n'≤255)→∀ b:Txt,b.length≤20→jT g' n' b=t→g'=val (t.take 8)∧n'=t.getD 9 0∧t.getD 10 0=(b.length:Int)∧(t.drop 12).take b.length=b:=fun g' n' hg' hn' b hb' e=>by
  obtain ⟨a1,a2,a3,a4⟩:=jT_tells hg' hn' hb'
  rw [e] at a1 a2 a3 a4
  exact ⟨a1.symm,a2.symm,a3,a4⟩
 have hlen:=rdTx_length ht
 have hle:=rdM_le t
 have hyes:1≤t.getD 10 0∧t.getD 10 0≤20→rdTx t=(t.drop 12).take (t.getD 10 0).toNat:=fun h=>by
  unfold rdTx rdM
  rw [Nat.min_eq_left (by omega)]
 refine ⟨fun h=>?_,fun h=>?_⟩
 ·obtain ⟨k1,k2,k3,k4⟩:=hkey _ _ (gen_of ht hb) (by have:=byte_getD hb 9;unfold isByte at this;omega) (rdTx t) (by omega) h.2
  have hr:1≤t.getD 10 0∧t.getD 10 0≤20:=⟨h.1,by omega⟩
  by_cases he:g=val (t.take 8)∧n=t.getD 9 0
  ·rw [if_pos he]
   unfold noteT
   rw [← hyes hr,he.1,he.2,if_pos ⟨hr,h.2⟩]
  ·rw [if_neg he]
   unfold noteT
   rw [← hyes hr,if_neg]
   rintro ⟨_,h2⟩
   obtain ⟨j1,j2,_⟩:=hkey g n hg hn _ (by omega) h2
   exact he ⟨j1,j2⟩
 ·unfold noteT
  rw [if_neg]
  rintro ⟨h1,h2⟩
  rw [← hyes h1] at h2
  obtain ⟨j1,j2,_⟩:=hkey g n hg hn _ (by omega) h2
  rw [j1,j2] at h2
  exact h ⟨h1.1,h2⟩
end Go.Proofs.YtifgcfepbenpjaaGreat
