/- Texts of layers 1 to 12, joined. -/
import Derived.Test.YtifgcfepbenpjaaGreatNb30
import Derived.Laws.StructEq
set_option maxRecDepth 100000
set_option maxHeartbeats 12800000
set_option linter.unusedVariables false
namespace Go.Proofs.YtifgcfepbenpjaaGreat
open Go.RowKit Go.OpenShut Go.ChangeShapes Go.WideShapes Go.Deep Go.Joins
abbrev supV (v a g:Int):Value:=.agg #[.int .u32 v,.int .i64 a,.int .u64 g]
abbrev supL (v a g:Int):List Value:=[.int .u32 v,.int .i64 a,.int .u64 g]
theorem eq_sup (a b c a' b' c':Int) (w:World):(Op.equalIn 10000 29 (supV a b c) (supV a' b' c')).run Tryz.prog w=.ok (a == a' && b == b' && c == c') w:=by
 have u1:=Tryz.underlying26
 have u2:=Tryz.underlying3
 have u3:=Tryz.underlying27
 have hS:Tryz.prog.underlying 29=some (.struct (Tryz.prog.fieldsOf 29)):=by kernel_rfl
 have hp:Tryz.prog.stoodInHeld 29=false:=by kernel_rfl
 rw [show (10000:Nat)=9999 + 1 from rfl,run_equalIn_agg w 9999 29 _ _ hS hp]
 simp only [Program.fieldsOf,Tryz.underlying29]
 go_simp
 by_cases h1:a=a' <;> by_cases h2:b=b' <;> by_cases h3:c=c' <;> simp [h1,h2,h3]
structure SBox (w:World) (G:Nat) (P T A M W Q:Int) (D:Option Addr) (n c:Nat) (D':Option Addr) (n' c':Nat) (S:List Sec) (C:List Pnd) (v a g:Int):Prop where
 two:TBox w G P T A M W Q D n c D' n' c' S C
 sup:Blk w (G + 2) 29 (supL v a g)
section
variable {w w':World} {G:Nat} {P T A M W Q v a g:Int} {D D':Option Addr} {n c n' c':Nat} {S:List Sec} {C:List Pnd}
theorem SBox.below (x:SBox w G P T A M W Q D n c D' n' c' S C v a g) (hb:Below w.heap.size w w'):SBox w' G P T A M W Q D n c D' n' c' S C v a g:=⟨x.two.below hb,x.sup.below hb x.sup.lt⟩
theorem SBox.new (P T A M W Q v a g:Int) (t:Dsk w D n c D' n' c' S C):SBox (((w.alloc (.cells #[.int .i64 P,.int .i64 T,.int .i64 A,.int .i64 M,.int .i64 W,.int .i64 Q] 36)).alloc (.cells #[.slice D n c,.slice D' n' c'] 25)).alloc (.cells #[.int .u32 v,.int .i64 a,.int .u64 g] 29)) w.heap.size P T A M W Q D n c D' n' c' S C v a g∧Below w.heap.size w (((w.alloc (.cells #[.int .i64 P,.int .i64 T,.int .i64 A,.int .i64 M,.int .i64 W,.int .i64 Q] 36)).alloc (.cells #[.slice D n c,.slice D' n' c'] 25)).alloc (.cells #[.int .u32 v,.int .i64 a,.int .u64 g] 29)):=by
 obtain ⟨x,hb⟩:=TBox.new P T A M W Q t
 have hk:=(Below.refl ((w.alloc (.cells #[.int .i64 P,.int .i64 T,.int .i64 A,.int .i64 M,.int .i64 W,.int .i64 Q] 36)).alloc (.cells #[.slice D n c,.slice D' n' c'] 25)).heap.size _).alloc (Nat.le_refl _) (.cells #[.int .u32 v,.int .i64 a,.int .u64 g] 29)
 have y:=Blk.new ((w.alloc (.cells #[.int .i64 P,.int .i64 T,.int .i64 A,.int .i64 M,.int .i64 W,.int .i64 Q] 36)).alloc (.cells #[.slice D n c,.slice D' n' c'] 25)) 29 [.int .u32 v,.int .i64 a,.int .u64 g]
 rw [World.size_alloc,World.size_alloc] at y
 exact ⟨⟨x.below hk,y⟩,hb.alloc hb.size _⟩
theorem SBox.cells (x:SBox w G P T A M W Q D n c D' n' c' S C v a g):w.cell? ⟨G,0,none⟩=some (.int .i64 P)∧w.cell? ⟨G,1,none⟩=some (.int .i64 T)∧w.cell? ⟨G,2,none⟩=some (.int .i64 A)∧w.cell? ⟨G,3,none⟩=some (.int .i64 M)∧w.cell? ⟨G,4,none⟩=some (.int .i64 W)∧w.cell? ⟨G,5,none⟩=some (.int .i64 Q) ∧
  w.cell? ⟨G + 1,0,none⟩=some (.slice D n c)∧w.cell? ⟨G + 1,1,none⟩=some (.slice D' n' c')∧w.cell? ⟨G + 2,0,none⟩=some (.int .u32 v)∧w.cell? ⟨G + 2,1,none⟩=some (.int .i64 a)∧w.cell? ⟨G + 2,2,none⟩=some (.int .u64 g):=by
 obtain ⟨c0,c1,c2,c3,c4,c5,d0,d1⟩:=x.two.cells
 exact ⟨c0,c1,c2,c3,c4,c5,d0,d1,x.sup.cell 0,x.sup.cell 1,x.sup.cell 2⟩
end
theorem Blk.tri {w:World} {g:Nat} {t:TypeId} {a b c:Value} (h:Blk w g t [a,b,c]):w.cell? ⟨g,0,none⟩=some a∧w.cell? ⟨g,1,none⟩=some b∧w.cell? ⟨g,2,none⟩=some c:=⟨h.cell 0,h.cell 1,h.cell 2⟩
theorem ssizes_any (w:World):Calls Tryz.prog 124 #[] w fun e w'=>∃ g,e=.returned (.slice (some ⟨g,0,none⟩) 3 3)∧Arg w' .i64 (some ⟨g,0,none⟩) 3 3 sz3∧Below w.heap.size w w':=by
 have hml:3≤maxLen:=by decide
 have HA:=Lh (show Arg (w.alloc (.cells #[.int .i64 4,.int .i64 1,.int .i64 8] 3)) .i64 (some ⟨w.heap.size,0,none⟩) 3 3 sz3 from ⟨lit_row w 3 .i64 sz3 _ _ _ rfl rfl (by simp),rfl,Nat.le_refl _,hml⟩)
 go_enter Tryz.func124,Tryz.ntmps124
 go_wp2
 go_ret
 exact ⟨_,rfl,HA.out,(Below.refl _ _).alloc (Nat.le_refl _) _⟩
theorem nums_sup (w:World) (v a g:Int) (b B:Nat) (hb:b=w.heap.size) (hB:w.heap.size < B):Seq (w.alloc (.cells #[.int .u64 v,.int .u64 a,.int .u64 g] 27)) B (some ⟨b,0,none⟩) (ints .u64 [v,a,g]):=lit_row w 27 .u64 [v,a,g] _ _ _ rfl hb hB
theorem srow_any (v a g:Int) (hs:isS (v,a,g)) (ha:arS a) (w:World) :
  Calls Tryz.prog 156 #[supV v a g] w fun e w'=>∃ A c,e=.returned (.slice A 13 c)∧w'.ownsRow w.heap.size 5 1 (.slice A 13 c) 13 (ints .u8 (suT (v,a,g)))∧Below w.heap.size w w':=by
 have x:=Blk.new w 29 [.int .u32 v,.int .i64 a,.int .u64 g]
 have hbel:Below w.heap.size w (w.alloc (.cells #[.int .u32 v,.int .i64 a,.int .u64 g] 29)):=(Below.refl _ _).alloc (Nat.le_refl _) _
 obtain ⟨⟨hv0,hv1⟩,hg0,hg1⟩:=hs
 dsimp only at hv0 hv1 hg0 hg1
 have ha1:0≤a∧a < 256:=by unfold arS at ha;omega
 have FT:=Lh (show fitsTo [v,a,g] sz3 sz3.length=true from fits3 (s:=(v,a,g)) ⟨⟨hv0,hv1⟩,hg0,hg1⟩ ha1)
 have W1:=Lh (show ∀ z ∈ [v,a,g],isWord z by
  intro z hz
  simp only [List.mem_cons,List.not_mem_nil,or_false] at hz
  unfold isWord
  rcases hz with rfl | rfl | rfl <;> omega)
 have X:=Lh x
 have BL:=Lh hbel
 have e1:IntKind.u64.wrap v=v:=wraps_u64 v hv0 (by omega)
 have e2:IntKind.u64.wrap a=a:=wraps_u64 a ha1.1 (by omega)
 clear x hbel hv0 hv1 hg0 hg1 ha1 ha
 go_enter Tryz.func156,Tryz.ntmps156
 go_upto_region 1 with fail
 obtain ⟨v1,hW⟩:∃ x:World,x=w.alloc (.cells #[.int .u32 v,.int .i64 a,.int .u64 g] 29):=⟨_,rfl⟩
 rw [← hW] at X BL ⊢
 have hlt:w.heap.size < v1.heap.size:=X.out.lt
 clear hW
 have hcur:Below v1.heap.size v1 v1.drew:=below_drewN (Below.refl _ _) 1
 have keepX:∀ wx,Below v1.heap.size v1 wx→wx.cell? ⟨w.heap.size,0,none⟩=some (.int .u32 v)∧wx.cell? ⟨w.heap.size,1,none⟩=some (.int .i64 a)∧wx.cell? ⟨w.heap.size,2,none⟩=some (.int .u64 g):=fun wx hx=>(X.out.below hx hlt).tri
 have hkX:=keepX _ hcur
 go_region_held3 (fun w'=>w'.cell? ⟨w.heap.size,0,none⟩=some (.int .u32 v)∧w'.cell? ⟨w.heap.size,1,none⟩=some (.int .i64 a)∧w'.cell? ⟨w.heap.size,2,none⟩=some (.int .u64 g))
  (first | exact hkX | exact keepX _ (hcur.alloc hcur.size _) | exact keepX _ (below_drewN ((Below.refl _ _).alloc (Nat.le_refl _) _) 1) | go_keep)
  (first
   | (go_at_call 124;with_reducible refine (ssizes_any v1.drew).mono ?_;rintro e wS ⟨gS,rfl,hAS,hbS⟩;have hcur:=hcur.trans (hbS.mono hcur.size);have hkX:=keepX _ hcur)
   | (go_at_call 124;have hL:=nums_sup v1 v a g v1.heap.size (v1.heap.size + 1) rfl (Nat.lt_succ_self _);have hcur:Below v1.heap.size v1 (v1.alloc (.cells #[.int .u64 v,.int .u64 a,.int .u64 g] 27)).drew:=below_drewN ((Below.refl _ _).alloc (Nat.le_refl _) _) 1;have hL:Seq (v1.alloc (.cells #[.int .u64 v,.int .u64 a,.int .u64 g] 27)).drew (v1.heap.size + 1) (some ⟨v1.heap.size,0,none⟩) (ints .u64 [v,a,g]):=hL.keep fun _ _=>rfl;with_reducible refine (ssizes_any _).mono ?_;rintro e wS ⟨gS,rfl,hAS,hbS⟩;have hL:=(hL.below (hbS.mono (by simp))).more (B':=wS.heap.size) (Nat.le_trans (by simp) hbS.size);have hcur:=hcur.trans (hbS.mono hcur.size);have hkX:=keepX _ hcur)
   | (go_at_call 74;with_reducible refine (write_ok (some ⟨v1.heap.size,0,none⟩) (some ⟨gS,0,none⟩) 3 3 3 3 [v,a,g] sz3 _ hAS.seq rfl okB_sz3 hL rfl rfl W1.out).mono ?_;intro e w2 hout;have hM:=hcur.size;obtain ⟨A2,c2,rfl,hown,hb⟩:=(WroteOut.yes hout FT.out).len (zs':=suT (v,a,g)) (n:=13) rfl (suT_length _);have hcur:=hcur.trans (hb.mono hcur.size);have hkX:=keepX _ hcur)
   | (go_at_call 74;have hL:=nums_sup wS v a g wS.heap.size (wS.heap.size + 1) rfl (Nat.lt_succ_self _);have hL:=hL.more (B':=(wS.alloc (.cells #[.int .u64 v,.int .u64 a,.int .u64 g] 27)).heap.size) (by simp);have hAS:=hAS.below ((Below.refl wS.heap.size wS).alloc (Nat.le_refl _) (.cells #[.int .u64 v,.int .u64 a,.int .u64 g] 27));have hcur:=hcur.alloc hcur.size (.cells #[.int .u64 v,.int .u64 a,.int .u64 g] 27);with_reducible refine (write_ok (some ⟨wS.heap.size,0,none⟩) (some ⟨gS,0,none⟩) 3 3 3 3 [v,a,g] sz3 _ hAS.seq rfl okB_sz3 hL rfl rfl W1.out).mono ?_;intro e w2 hout;have hM:=hcur.size;obtain ⟨A2,c2,rfl,hown,hb⟩:=(WroteOut.yes hout FT.out).len (zs':=suT (v,a,g)) (n:=13) rfl (suT_length _);have hcur:=hcur.trans (hb.mono hcur.size);have hkX:=keepX _ hcur))
 all_goals (
  have hfin:=BL.out.trans (hcur.mono BL.out.size)
  have hown:=hown
  go_wp2
  go_ret
  exact ⟨A2,c2,rfl,owns_base hown (Nat.le_trans BL.out.size hM),hfin⟩)
theorem maybe_any (v a g:Int) (w:World):Calls Tryz.prog 125 #[supV v a g] w fun e w'=>e=.returned (.bool (decide (arS a)))∧Below w.heap.size w w':=by
 have x:=Blk.new w 29 [.int .u32 v,.int .i64 a,.int .u64 g]
 have hbel:Below w.heap.size w (w.alloc (.cells #[.int .u32 v,.int .i64 a,.int .u64 g] 29)):=(Below.refl _ _).alloc (Nat.le_refl _) _
 obtain ⟨c0,c1,c2⟩:=x.tri
 have B:=Lh hbel
 have ev:(v == v)=true:=beq_self_eq_true _
 have eg:(g == g)=true:=beq_self_eq_true _
 have EQ:=fun (k:Int) (wx:World)=>eq_sup v a g v k g wx
 obtain ⟨r,hr⟩:∃ r,r=decide (arS a):=⟨_,rfl⟩
 rw [← hr]
 have HR:=Lh hr
 clear x hbel hr
 go_enter Tryz.func125,Tryz.ntmps125
 go_wp2
 go_loop [4,3] (fun i _=>∃ k:Nat,k≤2∧i=.int .i64 k∧∀ j:Nat,j < k→a≠(j:Int)) (fun i _=>2 - (intOf i).toNat)
 case atStart=>exact ⟨0,Nat.zero_le _,rfl,fun j h=>absurd h (Nat.not_lt_zero _)⟩
 case round =>
  obtain ⟨k,hk,rfl,hn⟩:=hrel
  have HN:=Lh hn
  clear hn
  by_cases hkm:k < 2
  ·have hki:(k:Int) < 2:=by omega
   by_cases hak:a=(k:Int)
   ·have hb1:(a == (k:Int))=true:=beq_iff_eq.2 hak
    have hd:r=true:=HR.out.trans (decide_eq_true (by unfold arS;omega))
    subst hd
    clear hak
    go_wp2
    go_ret
    exact ⟨rfl,B.out⟩
   ·have hb1:(a == (k:Int))=false:=beq_eq_false_iff_ne.2 hak
    have HAK:=Lh hak
    clear hak
    go_wp2
    go_round
    case rel =>
     refine ⟨k + 1,by omega,by go_num,fun j hj=>?_⟩
     by_cases e:j=k
     ·rw [e];exact HAK.out
     ·exact HN.out j (by omega)
    case measure=>simp [intOf];omega
  ·obtain rfl:k=2:=by omega
   have hd:r=false:=HR.out.trans (decide_eq_false (by
    have h0:=HN.out 0 (by omega)
    have h1:=HN.out 1 (by omega)
    unfold arS
    omega))
   subst hd
   go_wp2
   go_ret
   exact ⟨rfl,B.out⟩
end Go.Proofs.YtifgcfepbenpjaaGreat
namespace Go.Proofs.YtifgcfepbenpjaaGreat
open Go.RowKit
theorem own_two {w:World} {base:Nat} {A:Option Addr} {n c:Nat} {T:Txt} (h:OwnTxt w base A n c T) {g:Nat} {t:TypeId} {cs:List Value} (hb:Blk w g t cs) (h2:t≠5) (x y:Value):OwnTxt ((w.setCell ⟨g,0,none⟩ x).setCell ⟨g,1,none⟩ y) base A n c T :=
 (h.box hb h2 0 x).box (hb.set 0 x) h2 1 y
theorem jae_may {P T A M W Q:Int} {S:List Sec} {C:List Pnd} {a:Int} (h:jaE P T A M W Q S C a=0):mayT P T A M W Q S C∧arJ a:=by
 unfold jaE at h
 split at h
 ·split at h
  ·exact ⟨by assumption,by assumption⟩
  ·cases h
 ·cases h
theorem first_wrap {P T A M W Q:Int} {S:List Sec} {C:List Pnd} {a j:Int} (h:jaE P T A M W Q S C a=0) (hj:0≤j) (hA:j < A):0≤2 + a * A∧2 + a * A≤100∧IntKind.i64.wrap (2 + a * A + j)=2 + a * A + j:=by
 obtain ⟨h1,h2⟩:=jae_may h
 have h3:=h1.1
 unfold mayC at h3
 have e:a * A=0∨a * A=A:=by
  unfold arJ at h2
  rcases (show a=0∨a=1 by omega) with r | r
  ·rw [r];left;simp
  ·rw [r];right;simp
 obtain ⟨k,hk⟩:=Int.eq_ofNat_of_zero_le (show 0≤2 + a * A + j by omega)
 refine ⟨by omega,by omega,?_⟩
 rw [hk]
 exact Lib.wrap_i64_small k (by omega)
def jaN (P T A M W Q:Int) (S:List Sec) (C:List Pnd) (a:Int):Int:=if jaE P T A M W Q S C a=0 then 2 + a * A else 0
theorem firstof_any (P T A M W Q:Int) (D:Option Addr) (n c:Nat) (D':Option Addr) (n' c':Nat) (S:List Sec) (C:List Pnd) (a:Int) (w:World) (hq:Dsk w D n c D' n' c' S C) (hs:SmallD S C) :
  Calls Tryz.prog 81 #[cfgV P T A M W Q,diskV D n c D' n' c',.int .i64 a] w fun e w'=>e=.returned (.tuple #[.int .i64 (jaN P T A M W Q S C a),.int .i64 (jaE P T A M W Q S C a)])∧Below w.heap.size w w':=by
 obtain ⟨x,hbel⟩:=TBox.new P T A M W Q hq
 obtain ⟨w0,hw0⟩:∃ x:World,x=(w.alloc (.cells #[.int .i64 P,.int .i64 T,.int .i64 A,.int .i64 M,.int .i64 W,.int .i64 Q] 36)).alloc (.cells #[.slice D n c,.slice D' n' c'] 25):=⟨_,rfl⟩
 rw [← hw0] at x hbel
 have X:=Lh x
 have B:=Lh hbel
 have CK:=Lh (tcheck_any P T A M W Q D n c D' n' c' S C w0 x.dsk.dsk hs)
 obtain ⟨c0,c1,c2,c3,c4,c5,d0,d1⟩:=x.cells
 by_cases hm:mayT P T A M W Q S C
 ·rw [show tcE P T A M W Q S C=0 from if_pos hm] at CK
  have hmc:mayC P T A M W Q:=hm.1
  have hA1:1≤A:=by unfold mayC at hmc;omega
  have hE:jaE P T A M W Q S C a=areE P T A M W Q a 0:=by
   unfold jaE areE
   rw [if_pos hm,if_pos hmc]
   by_cases h:arJ a
   ·rw [if_pos h,if_pos ⟨h.1,h.2,by omega,by omega⟩]
   ·rw [if_neg h,if_neg (fun k=>h ⟨k.1,k.2.1⟩)]
  have hN:jaN P T A M W Q S C a=areN P T A M W Q a 0:=by
   unfold jaN jaE areN
   rw [if_pos hm,if_pos hmc]
   by_cases h:arJ a
   ·rw [if_pos h,if_pos rfl,if_pos ⟨h.1,h.2,by omega,by omega⟩]
    omega
   ·rw [if_neg h,if_neg (by decide),if_neg (fun k=>h ⟨k.1,k.2.1⟩)]
  rw [hE,hN]
  have AR:=Lh (fun wx=>parea_any P T A M W Q a 0 wx)
  obtain ⟨E,hEE⟩:∃ E,E=areE P T A M W Q a 0:=⟨_,rfl⟩
  obtain ⟨y,hy⟩:∃ y,y=areN P T A M W Q a 0:=⟨_,rfl⟩
  rw [← hEE,← hy] at AR ⊢
  clear hm hmc hA1 hE hN hEE hy hq hs hbel
  go_enter Tryz.func81,Tryz.ntmps81
  go_wp2_with fail
  rw [← hw0]
  clear hw0
  refine CK.out.mono ?_
  rintro e w1 ⟨rfl,hb⟩
  have B:=Lh (B.out.trans (hb.mono B.out.size))
  have X:=Lh (X.out.below hb)
  clear hb x CK c0 c1 c2 c3 c4 c5 d0 d1
  obtain ⟨c0,c1,c2,c3,c4,c5,d0,d1⟩:=X.out.cells
  go_wp2_with fail
  refine (AR.out _).mono ?_
  rintro e w2 ⟨rfl,hb⟩
  have B:=Lh (B.out.trans (hb.mono B.out.size))
  clear hb X AR c0 c1 c2 c3 c4 c5 d0 d1
  go_wp2
  go_ret2
  exact ⟨rfl,B.out⟩
 ·rw [show tcE P T A M W Q S C=8 from if_neg hm] at CK
  have hE:jaE P T A M W Q S C a=8:=if_neg hm
  rw [show jaN P T A M W Q S C a=0 by unfold jaN;rw [hE];rfl,hE]
  clear hm hE hq hs hbel
  go_enter Tryz.func81,Tryz.ntmps81
  go_wp2_with fail
  rw [← hw0]
  clear hw0
  refine CK.out.mono ?_
  rintro e w1 ⟨rfl,hb⟩
  have B:=Lh (B.out.trans (hb.mono B.out.size))
  clear hb x CK c0 c1 c2 c3 c4 c5 d0 d1
  go_wp2
  go_ret2
  exact ⟨rfl,B.out⟩
theorem jplan_any (P T A M W Q:Int) (D:Option Addr) (n c:Nat) (D':Option Addr) (n' c':Nat) (S:List Sec) (C:List Pnd) (a g j:Int) (Ab:Option Addr) (nb cb:Nat) (b:Txt) (w:World) (hq:Dsk w D n c D' n' c' S C) (hs:SmallD S C) (hg:isG g) (hb:Arg w .u8 Ab nb cb b) :
  Calls Tryz.prog 113 #[cfgV P T A M W Q,diskV D n c D' n' c',.int .i64 a,.int .u64 g,.int .i64 j,.slice Ab nb cb] w (PndOut w (jpN P T A M W Q S C a j b) (jpB P T A M W Q S C a g j b) (jpE P T A M W Q S C a j b)):=by
 obtain ⟨x,hbel⟩:=TBox.new P T A M W Q hq
 have hk:=(Below.refl ((w.alloc (.cells #[.int .i64 P,.int .i64 T,.int .i64 A,.int .i64 M,.int .i64 W,.int .i64 Q] 36)).alloc (.cells #[.slice D n c,.slice D' n' c'] 25)).heap.size _).alloc (Nat.le_refl _) (.cells #[.int .i64 0,.slice none 0 0] 114)
 have r:=Blk.new ((w.alloc (.cells #[.int .i64 P,.int .i64 T,.int .i64 A,.int .i64 M,.int .i64 W,.int .i64 Q] 36)).alloc (.cells #[.slice D n c,.slice D' n' c'] 25)) 114 [.int .i64 0,.slice none 0 0]
 rw [World.size_alloc,World.size_alloc] at r
 have x:=x.below hk
 have hbel:=hbel.trans (hk.mono hbel.size)
 obtain ⟨w0,hw0⟩:∃ x:World,x=((w.alloc (.cells #[.int .i64 P,.int .i64 T,.int .i64 A,.int .i64 M,.int .i64 W,.int .i64 Q] 36)).alloc (.cells #[.slice D n c,.slice D' n' c'] 25)).alloc (.cells #[.int .i64 0,.slice none 0 0] 114):=⟨_,rfl⟩
 change Blk (((w.alloc (.cells #[.int .i64 P,.int .i64 T,.int .i64 A,.int .i64 M,.int .i64 W,.int .i64 Q] 36)).alloc (.cells #[.slice D n c,.slice D' n' c'] 25)).alloc (.cells #[.int .i64 0,.slice none 0 0] 114)) _ _ _ at r
 change TBox (((w.alloc (.cells #[.int .i64 P,.int .i64 T,.int .i64 A,.int .i64 M,.int .i64 W,.int .i64 Q] 36)).alloc (.cells #[.slice D n c,.slice D' n' c'] 25)).alloc (.cells #[.int .i64 0,.slice none 0 0] 114)) _ _ _ _ _ _ _ _ _ _ _ _ _ _ _ at x
 change Below _ _ (((w.alloc (.cells #[.int .i64 P,.int .i64 T,.int .i64 A,.int .i64 M,.int .i64 W,.int .i64 Q] 36)).alloc (.cells #[.slice D n c,.slice D' n' c'] 25)).alloc (.cells #[.int .i64 0,.slice none 0 0] 114)) at hbel
 rw [← hw0] at x hbel r
 have X:=Lh x
 have B:=Lh hbel
 have R:=Lh r
 have HBA:=Lh (hb.below hbel)
 have hlen:=hb.len
 have FO:=Lh (firstof_any P T A M W Q D n c D' n' c' S C a w0 x.dsk.dsk hs)
 obtain ⟨c0,c1,c2,c3,c4,c5,d0,d1⟩:=x.cells
 unfold PndOut
 by_cases h0:jaE P T A M W Q S C a=0
 ·have hN:jaN P T A M W Q S C a=2 + a * A:=if_pos h0
  rw [h0,hN] at FO
  have hpE:jpE P T A M W Q S C a j b=if 0≤j then (if j < A then jtE j b else 9) else 2:=if_pos h0
  by_cases hj:0≤j
  ·rw [if_pos hj] at hpE
   by_cases hA:j < A
   ·rw [if_pos hA] at hpE
    have TX:=Lh (fun wx (h:Arg wx .u8 Ab nb cb b)=>jtext_any g j Ab nb cb b wx hg h)
    unfold TxtOut at TX
    have hjn:¬ (j < 0):=by omega
    have hjA:¬ (A≤j):=by omega
    obtain ⟨F,hF⟩:∃ F,F=2 + a * A:=⟨_,rfl⟩
    rw [← hF] at FO
    have hin:=first_wrap h0 hj hA
    rw [← hF] at hin
    have e1:IntKind.i64.wrap (F + j)=F + j:=hin.2.2
    by_cases hE:jtE j b=0
    ·have hp0:=hpE.trans hE
     rw [show jpN P T A M W Q S C a j b=F + j by unfold jpN;rw [if_pos hp0,hF],show jpB P T A M W Q S C a g j b=jtB g j b by unfold jpB jtB;rw [if_pos hp0,if_pos hE],hp0]
     rw [hE] at TX
     obtain ⟨t,ht⟩:∃ t,t=jtB g j b:=⟨_,rfl⟩
     rw [← ht] at TX ⊢
     clear h0 hN hpE hj hA hF hin hE hp0 hq hs hg hb hbel hlen ht hk
     go_enter Tryz.func113,Tryz.ntmps113
     go_wp2_with fail
     rw [← hw0]
     clear hw0
     refine FO.out.mono ?_
     rintro e w1 ⟨rfl,hb⟩
     have B:=Lh (B.out.trans (hb.mono B.out.size))
     have X:=Lh (X.out.below hb)
     have R:=Lh (R.out.below hb R.out.lt)
     have HBA:=Lh (HBA.out.below hb)
     clear hb x r FO c0 c1 c2 c3 c4 c5 d0 d1
     obtain ⟨c0,c1,c2,c3,c4,c5,d0,d1⟩:=X.out.cells
     have r0:=R.out.cell 0
     have r1:=R.out.cell 1
     have f0:=R.out.free 0
     have f1:=R.out.free 1
     simp only [gcZ,gcS] at r0 r1
     go_wp2_with fail
     refine (TX.out _ HBA.out).mono ?_
     rintro e w2 ⟨A2,c2',rfl,hown,hb⟩
     have hsz:=B.out.size
     have B:=Lh (B.out.trans (hb.mono B.out.size))
     have R:=Lh (R.out.below hb R.out.lt)
     have OW:=Lh (hown.lower (base':=w.heap.size) hsz)
     clear hb hown TX X HBA c0 c1 c2 c3 c4 c5 d0 d1 r0 r1 f0 f1
     have r0:=R.out.cell 0
     have r1:=R.out.cell 1
     have f0:=R.out.free 0
     have f1:=R.out.free 1
     simp only [gcZ,gcS] at r0 r1
     go_wp2
     have z:=R.out.two (.int .i64 (F + j)) (.slice A2 t.length c2')
     have z0:=z.cell 0
     have z1:=z.cell 1
     simp only [gcZ,gcS] at z0 z1
     refine bodyPost_ret (v:=.tuple #[.agg #[.int .i64 (F + j),.slice A2 t.length c2'],.int .i64 0]) ?_ rfl ⟨A2,c2',rfl,own_two OW.out R.out (by decide) _ _,below_two B.out (by omega) _ _⟩
     clear r0 r1 f0 f1
     simp [results,Tryz.f113,go_sem,z0,z1]
    ·have hpE0:jpE P T A M W Q S C a j b≠0:=by rw [hpE];exact hE
     rw [show jpN P T A M W Q S C a j b=0 from if_neg hpE0,show jpB P T A M W Q S C a g j b=[] from if_neg hpE0,hpE]
     rw [show jtB g j b=[] from if_neg hE] at TX
     obtain ⟨E,hEE⟩:∃ E,E=jtE j b:=⟨_,rfl⟩
     rw [← hEE] at TX hE ⊢
     have hne:(E != 0)=true:=by rw [bne_iff_ne];exact hE
     clear h0 hN hpE hpE0 hj hA hF hin hE hq hs hg hb hbel hlen hk hEE e1
     go_enter Tryz.func113,Tryz.ntmps113
     go_wp2_with fail
     rw [← hw0]
     clear hw0
     refine FO.out.mono ?_
     rintro e w1 ⟨rfl,hb⟩
     have B:=Lh (B.out.trans (hb.mono B.out.size))
     have X:=Lh (X.out.below hb)
     have R:=Lh (R.out.below hb R.out.lt)
     have HBA:=Lh (HBA.out.below hb)
     clear hb x r FO c0 c1 c2 c3 c4 c5 d0 d1
     obtain ⟨c0,c1,c2,c3,c4,c5,d0,d1⟩:=X.out.cells
     have r0:=R.out.cell 0
     have r1:=R.out.cell 1
     have f0:=R.out.free 0
     have f1:=R.out.free 1
     simp only [gcZ,gcS] at r0 r1
     go_wp2_with fail
     refine (TX.out _ HBA.out).mono ?_
     rintro e w2 ⟨A2,c2',rfl,hown,hb⟩
     have hsz:=B.out.size
     have B:=Lh (B.out.trans (hb.mono B.out.size))
     have R:=Lh (R.out.below hb R.out.lt)
     clear hb hown TX HBA r0 r1 f0 f1
     have r0:=R.out.cell 0
     have r1:=R.out.cell 1
     have f0:=R.out.free 0
     have f1:=R.out.free 1
     simp only [gcZ,gcS] at r0 r1
     go_wp2
     have z:=R.out.two (.int .i64 0) (.slice none 0 0)
     have z0:=z.cell 0
     have z1:=z.cell 1
     simp only [gcZ,gcS] at z0 z1
     refine bodyPost_ret (v:=.tuple #[.agg #[.int .i64 0,.slice none 0 0],.int .i64 E]) ?_ rfl ⟨none,0,rfl,OwnTxt.nil _ _,below_two B.out (by omega) _ _⟩
     clear c0 c1 c2 c3 c4 c5 d0 d1 r0 r1 f0 f1
     simp [results,Tryz.f113,go_sem,z0,z1]
   ·rw [if_neg hA] at hpE
    have hpE0:jpE P T A M W Q S C a j b≠0:=by rw [hpE];decide
    rw [show jpN P T A M W Q S C a j b=0 from if_neg hpE0,show jpB P T A M W Q S C a g j b=[] from if_neg hpE0,hpE]
    have hjn:¬ (j < 0):=by omega
    have hjA:A≤j:=by omega
    clear h0 hN hpE hpE0 hj hA hq hs hg hb hbel hlen hk
    go_enter Tryz.func113,Tryz.ntmps113
    go_wp2_with fail
    rw [← hw0]
    clear hw0
    refine FO.out.mono ?_
    rintro e w1 ⟨rfl,hb⟩
    have B:=Lh (B.out.trans (hb.mono B.out.size))
    have X:=Lh (X.out.below hb)
    have R:=Lh (R.out.below hb R.out.lt)
    have HBA:=Lh (HBA.out.below hb)
    clear hb x r FO c0 c1 c2 c3 c4 c5 d0 d1
    obtain ⟨c0,c1,c2,c3,c4,c5,d0,d1⟩:=X.out.cells
    have r0:=R.out.cell 0
    have r1:=R.out.cell 1
    have f0:=R.out.free 0
    have f1:=R.out.free 1
    simp only [gcZ,gcS] at r0 r1
    go_wp2
    have z:=R.out.two (.int .i64 0) (.slice none 0 0)
    have z0:=z.cell 0
    have z1:=z.cell 1
    simp only [gcZ,gcS] at z0 z1
    refine bodyPost_ret (v:=.tuple #[.agg #[.int .i64 0,.slice none 0 0],.int .i64 9]) ?_ rfl ⟨none,0,rfl,OwnTxt.nil _ _,below_two B.out (by omega) _ _⟩
    clear c0 c1 c2 c3 c4 c5 d0 d1 r0 r1 f0 f1
    simp [results,Tryz.f113,go_sem,z0,z1]
  ·rw [if_neg hj] at hpE
   have hpE0:jpE P T A M W Q S C a j b≠0:=by rw [hpE];decide
   rw [show jpN P T A M W Q S C a j b=0 from if_neg hpE0,show jpB P T A M W Q S C a g j b=[] from if_neg hpE0,hpE]
   have hjn:j < 0:=by omega
   clear h0 hN hpE hpE0 hj hq hs hg hb hbel hlen hk
   go_enter Tryz.func113,Tryz.ntmps113
   go_wp2_with fail
   rw [← hw0]
   clear hw0
   refine FO.out.mono ?_
   rintro e w1 ⟨rfl,hb⟩
   have B:=Lh (B.out.trans (hb.mono B.out.size))
   have X:=Lh (X.out.below hb)
   have R:=Lh (R.out.below hb R.out.lt)
   have HBA:=Lh (HBA.out.below hb)
   clear hb x r FO c0 c1 c2 c3 c4 c5 d0 d1
   obtain ⟨c0,c1,c2,c3,c4,c5,d0,d1⟩:=X.out.cells
   have r0:=R.out.cell 0
   have r1:=R.out.cell 1
   have f0:=R.out.free 0
   have f1:=R.out.free 1
   simp only [gcZ,gcS] at r0 r1
   go_wp2
   have z:=R.out.two (.int .i64 0) (.slice none 0 0)
   have z0:=z.cell 0
   have z1:=z.cell 1
   simp only [gcZ,gcS] at z0 z1
   refine bodyPost_ret (v:=.tuple #[.agg #[.int .i64 0,.slice none 0 0],.int .i64 2]) ?_ rfl ⟨none,0,rfl,OwnTxt.nil _ _,below_two B.out (by omega) _ _⟩
   clear c0 c1 c2 c3 c4 c5 d0 d1 r0 r1 f0 f1
   simp [results,Tryz.f113,go_sem,z0,z1]
 ·have hpE:jpE P T A M W Q S C a j b=jaE P T A M W Q S C a:=if_neg h0
  have hpE0:jpE P T A M W Q S C a j b≠0:=by rw [hpE];exact h0
  rw [show jpN P T A M W Q S C a j b=0 from if_neg hpE0,show jpB P T A M W Q S C a g j b=[] from if_neg hpE0,hpE]
  rw [show jaN P T A M W Q S C a=0 from if_neg h0] at FO
  obtain ⟨E,hEE⟩:∃ E,E=jaE P T A M W Q S C a:=⟨_,rfl⟩
  rw [← hEE] at FO h0 ⊢
  have hne:(E != 0)=true:=by rw [bne_iff_ne];exact h0
  clear h0 hpE hpE0 hq hs hg hb hbel hlen hk hEE
  go_enter Tryz.func113,Tryz.ntmps113
  go_wp2_with fail
  rw [← hw0]
  clear hw0
  refine FO.out.mono ?_
  rintro e w1 ⟨rfl,hb⟩
  have B:=Lh (B.out.trans (hb.mono B.out.size))
  have X:=Lh (X.out.below hb)
  have R:=Lh (R.out.below hb R.out.lt)
  have HBA:=Lh (HBA.out.below hb)
  clear hb x r FO c0 c1 c2 c3 c4 c5 d0 d1
  obtain ⟨c0,c1,c2,c3,c4,c5,d0,d1⟩:=X.out.cells
  have r0:=R.out.cell 0
  have r1:=R.out.cell 1
  have f0:=R.out.free 0
  have f1:=R.out.free 1
  simp only [gcZ,gcS] at r0 r1
  go_wp2
  have z:=R.out.two (.int .i64 0) (.slice none 0 0)
  have z0:=z.cell 0
  have z1:=z.cell 1
  simp only [gcZ,gcS] at z0 z1
  refine bodyPost_ret (v:=.tuple #[.agg #[.int .i64 0,.slice none 0 0],.int .i64 E]) ?_ rfl ⟨none,0,rfl,OwnTxt.nil _ _,below_two B.out (by omega) _ _⟩
  clear c0 c1 c2 c3 c4 c5 d0 d1 r0 r1 f0 f1
  simp [results,Tryz.f113,go_sem,z0,z1]
end Go.Proofs.YtifgcfepbenpjaaGreat
