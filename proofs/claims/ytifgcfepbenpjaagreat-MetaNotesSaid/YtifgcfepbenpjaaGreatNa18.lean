/- Texts of layers 1 to 12, joined. -/
import Derived.Test.YtifgcfepbenpjaaGreatNa16
import Derived.Laws.StructEq
import Derived.Maps.AppendAt
import Derived.Deep.Slices
set_option maxRecDepth 100000
set_option maxHeartbeats 12800000
set_option linter.unusedVariables false
namespace Go.Proofs.YtifgcfepbenpjaaGreat
open Go.RowKit Go.OpenShut Go.ChangeShapes Go.WideShapes Go.Deep Go.Joins
abbrev supV (v a g:Int):Value:=.agg #[.int .u32 v,.int .i64 a,.int .u64 g]
abbrev supL (v a g:Int):List Value:=[.int .u32 v,.int .i64 a,.int .u64 g]
theorem eq_sup (a b c a' b' c':Int) (w:World):(Op.equalIn 10000 29 (supV a b c) (supV a' b' c')).run Tryz.prog w=.ok (a == a' && b == b' && c == c') w:=by
 have u1:=Tryz.underlying26
 have u2:=Tryz.underlying3
 have u3:=Tryz.underlying27
 have hS:Tryz.prog.underlying 29=some (.struct (Tryz.prog.fieldsOf 29)):=by kernel_rfl
 have hp:Tryz.prog.stoodInHeld 29=false:=by kernel_rfl
 rw [show (10000:Nat)=9999 + 1 from rfl,run_equalIn_agg w 9999 29 _ _ hS hp]
 simp only [Program.fieldsOf,Tryz.underlying29]
 go_simp
 by_cases h1:a=a' <;> by_cases h2:b=b' <;> by_cases h3:c=c' <;> simp [h1,h2,h3]
structure SBox (w:World) (G:Nat) (P T A M W Q:Int) (D:Option Addr) (n c:Nat) (D':Option Addr) (n' c':Nat) (S:List Sec) (C:List Pnd) (v a g:Int):Prop where
 two:TBox w G P T A M W Q D n c D' n' c' S C
 sup:Blk w (G + 2) 29 (supL v a g)
section
variable {w w':World} {G:Nat} {P T A M W Q v a g:Int} {D D':Option Addr} {n c n' c':Nat} {S:List Sec} {C:List Pnd}
theorem SBox.below (x:SBox w G P T A M W Q D n c D' n' c' S C v a g) (hb:Below w.heap.size w w'):SBox w' G P T A M W Q D n c D' n' c' S C v a g:=⟨x.two.below hb,x.sup.below hb x.sup.lt⟩
theorem SBox.new (P T A M W Q v a g:Int) (t:Dsk w D n c D' n' c' S C):SBox (((w.alloc (.cells #[.int .i64 P,.int .i64 T,.int .i64 A,.int .i64 M,.int .i64 W,.int .i64 Q] 36)).alloc (.cells #[.slice D n c,.slice D' n' c'] 25)).alloc (.cells #[.int .u32 v,.int .i64 a,.int .u64 g] 29)) w.heap.size P T A M W Q D n c D' n' c' S C v a g∧Below w.heap.size w (((w.alloc (.cells #[.int .i64 P,.int .i64 T,.int .i64 A,.int .i64 M,.int .i64 W,.int .i64 Q] 36)).alloc (.cells #[.slice D n c,.slice D' n' c'] 25)).alloc (.cells #[.int .u32 v,.int .i64 a,.int .u64 g] 29)):=by
 obtain ⟨x,hb⟩:=TBox.new P T A M W Q t
 have hk:=(Below.refl ((w.alloc (.cells #[.int .i64 P,.int .i64 T,.int .i64 A,.int .i64 M,.int .i64 W,.int .i64 Q] 36)).alloc (.cells #[.slice D n c,.slice D' n' c'] 25)).heap.size _).alloc (Nat.le_refl _) (.cells #[.int .u32 v,.int .i64 a,.int .u64 g] 29)
 have y:=Blk.new ((w.alloc (.cells #[.int .i64 P,.int .i64 T,.int .i64 A,.int .i64 M,.int .i64 W,.int .i64 Q] 36)).alloc (.cells #[.slice D n c,.slice D' n' c'] 25)) 29 [.int .u32 v,.int .i64 a,.int .u64 g]
 rw [World.size_alloc,World.size_alloc] at y
 exact ⟨⟨x.below hk,y⟩,hb.alloc hb.size _⟩
theorem SBox.cells (x:SBox w G P T A M W Q D n c D' n' c' S C v a g):w.cell? ⟨G,0,none⟩=some (.int .i64 P)∧w.cell? ⟨G,1,none⟩=some (.int .i64 T)∧w.cell? ⟨G,2,none⟩=some (.int .i64 A)∧w.cell? ⟨G,3,none⟩=some (.int .i64 M)∧w.cell? ⟨G,4,none⟩=some (.int .i64 W)∧w.cell? ⟨G,5,none⟩=some (.int .i64 Q) ∧
  w.cell? ⟨G + 1,0,none⟩=some (.slice D n c)∧w.cell? ⟨G + 1,1,none⟩=some (.slice D' n' c')∧w.cell? ⟨G + 2,0,none⟩=some (.int .u32 v)∧w.cell? ⟨G + 2,1,none⟩=some (.int .i64 a)∧w.cell? ⟨G + 2,2,none⟩=some (.int .u64 g):=by
 obtain ⟨c0,c1,c2,c3,c4,c5,d0,d1⟩:=x.two.cells
 exact ⟨c0,c1,c2,c3,c4,c5,d0,d1,x.sup.cell 0,x.sup.cell 1,x.sup.cell 2⟩
end
theorem Blk.tri {w:World} {g:Nat} {t:TypeId} {a b c:Value} (h:Blk w g t [a,b,c]):w.cell? ⟨g,0,none⟩=some a∧w.cell? ⟨g,1,none⟩=some b∧w.cell? ⟨g,2,none⟩=some c:=⟨h.cell 0,h.cell 1,h.cell 2⟩
theorem ssizes_any (w:World):Calls Tryz.prog 124 #[] w fun e w'=>∃ g,e=.returned (.slice (some ⟨g,0,none⟩) 3 3)∧Arg w' .i64 (some ⟨g,0,none⟩) 3 3 sz3∧Below w.heap.size w w':=by
 have hml:3≤maxLen:=by decide
 have HA:=Lh (show Arg (w.alloc (.cells #[.int .i64 4,.int .i64 1,.int .i64 8] 3)) .i64 (some ⟨w.heap.size,0,none⟩) 3 3 sz3 from ⟨lit_row w 3 .i64 sz3 _ _ _ rfl rfl (by simp),rfl,Nat.le_refl _,hml⟩)
 go_enter Tryz.func124,Tryz.ntmps124
 go_wp2
 go_ret
 exact ⟨_,rfl,HA.out,(Below.refl _ _).alloc (Nat.le_refl _) _⟩
theorem nums_sup (w:World) (v a g:Int) (b B:Nat) (hb:b=w.heap.size) (hB:w.heap.size < B):Seq (w.alloc (.cells #[.int .u64 v,.int .u64 a,.int .u64 g] 27)) B (some ⟨b,0,none⟩) (ints .u64 [v,a,g]):=lit_row w 27 .u64 [v,a,g] _ _ _ rfl hb hB
theorem srow_any (v a g:Int) (hs:isS (v,a,g)) (ha:arS a) (w:World) :
  Calls Tryz.prog 156 #[supV v a g] w fun e w'=>∃ A c,e=.returned (.slice A 13 c)∧w'.ownsRow w.heap.size 5 1 (.slice A 13 c) 13 (ints .u8 (suT (v,a,g)))∧Below w.heap.size w w':=by
 have x:=Blk.new w 29 [.int .u32 v,.int .i64 a,.int .u64 g]
 have hbel:Below w.heap.size w (w.alloc (.cells #[.int .u32 v,.int .i64 a,.int .u64 g] 29)):=(Below.refl _ _).alloc (Nat.le_refl _) _
 obtain ⟨⟨hv0,hv1⟩,hg0,hg1⟩:=hs
 dsimp only at hv0 hv1 hg0 hg1
 have ha1:0≤a∧a < 256:=by unfold arS at ha;omega
 have FT:=Lh (show fitsTo [v,a,g] sz3 sz3.length=true from fits3 (s:=(v,a,g)) ⟨⟨hv0,hv1⟩,hg0,hg1⟩ ha1)
 have W1:=Lh (show ∀ z ∈ [v,a,g],isWord z by
  intro z hz
  simp only [List.mem_cons,List.not_mem_nil,or_false] at hz
  unfold isWord
  rcases hz with rfl | rfl | rfl <;> omega)
 have X:=Lh x
 have BL:=Lh hbel
 have e1:IntKind.u64.wrap v=v:=wraps_u64 v hv0 (by omega)
 have e2:IntKind.u64.wrap a=a:=wraps_u64 a ha1.1 (by omega)
 clear x hbel hv0 hv1 hg0 hg1 ha1 ha
 go_enter Tryz.func156,Tryz.ntmps156
 go_upto_region 1 with fail
 obtain ⟨v1,hW⟩:∃ x:World,x=w.alloc (.cells #[.int .u32 v,.int .i64 a,.int .u64 g] 29):=⟨_,rfl⟩
 rw [← hW] at X BL ⊢
 have hlt:w.heap.size < v1.heap.size:=X.out.lt
 clear hW
 have hcur:Below v1.heap.size v1 v1.drew:=below_drewN (Below.refl _ _) 1
 have keepX:∀ wx,Below v1.heap.size v1 wx→wx.cell? ⟨w.heap.size,0,none⟩=some (.int .u32 v)∧wx.cell? ⟨w.heap.size,1,none⟩=some (.int .i64 a)∧wx.cell? ⟨w.heap.size,2,none⟩=some (.int .u64 g):=fun wx hx=>(X.out.below hx hlt).tri
 have hkX:=keepX _ hcur
 go_region_held3 (fun w'=>w'.cell? ⟨w.heap.size,0,none⟩=some (.int .u32 v)∧w'.cell? ⟨w.heap.size,1,none⟩=some (.int .i64 a)∧w'.cell? ⟨w.heap.size,2,none⟩=some (.int .u64 g))
  (first | exact hkX | exact keepX _ (hcur.alloc hcur.size _) | exact keepX _ (below_drewN ((Below.refl _ _).alloc (Nat.le_refl _) _) 1) | go_keep)
  (first
   | (go_at_call 124;with_reducible refine (ssizes_any v1.drew).mono ?_;rintro e wS ⟨gS,rfl,hAS,hbS⟩;have hcur:=hcur.trans (hbS.mono hcur.size);have hkX:=keepX _ hcur)
   | (go_at_call 124;have hL:=nums_sup v1 v a g v1.heap.size (v1.heap.size + 1) rfl (Nat.lt_succ_self _);have hcur:Below v1.heap.size v1 (v1.alloc (.cells #[.int .u64 v,.int .u64 a,.int .u64 g] 27)).drew:=below_drewN ((Below.refl _ _).alloc (Nat.le_refl _) _) 1;have hL:Seq (v1.alloc (.cells #[.int .u64 v,.int .u64 a,.int .u64 g] 27)).drew (v1.heap.size + 1) (some ⟨v1.heap.size,0,none⟩) (ints .u64 [v,a,g]):=hL.keep fun _ _=>rfl;with_reducible refine (ssizes_any _).mono ?_;rintro e wS ⟨gS,rfl,hAS,hbS⟩;have hL:=(hL.below (hbS.mono (by simp))).more (B':=wS.heap.size) (Nat.le_trans (by simp) hbS.size);have hcur:=hcur.trans (hbS.mono hcur.size);have hkX:=keepX _ hcur)
   | (go_at_call 74;with_reducible refine (write_ok (some ⟨v1.heap.size,0,none⟩) (some ⟨gS,0,none⟩) 3 3 3 3 [v,a,g] sz3 _ hAS.seq rfl okB_sz3 hL rfl rfl W1.out).mono ?_;intro e w2 hout;have hM:=hcur.size;obtain ⟨A2,c2,rfl,hown,hb⟩:=(WroteOut.yes hout FT.out).len (zs':=suT (v,a,g)) (n:=13) rfl (suT_length _);have hcur:=hcur.trans (hb.mono hcur.size);have hkX:=keepX _ hcur)
   | (go_at_call 74;have hL:=nums_sup wS v a g wS.heap.size (wS.heap.size + 1) rfl (Nat.lt_succ_self _);have hL:=hL.more (B':=(wS.alloc (.cells #[.int .u64 v,.int .u64 a,.int .u64 g] 27)).heap.size) (by simp);have hAS:=hAS.below ((Below.refl wS.heap.size wS).alloc (Nat.le_refl _) (.cells #[.int .u64 v,.int .u64 a,.int .u64 g] 27));have hcur:=hcur.alloc hcur.size (.cells #[.int .u64 v,.int .u64 a,.int .u64 g] 27);with_reducible refine (write_ok (some ⟨wS.heap.size,0,none⟩) (some ⟨gS,0,none⟩) 3 3 3 3 [v,a,g] sz3 _ hAS.seq rfl okB_sz3 hL rfl rfl W1.out).mono ?_;intro e w2 hout;have hM:=hcur.size;obtain ⟨A2,c2,rfl,hown,hb⟩:=(WroteOut.yes hout FT.out).len (zs':=suT (v,a,g)) (n:=13) rfl (suT_length _);have hcur:=hcur.trans (hb.mono hcur.size);have hkX:=keepX _ hcur))
 all_goals (
  have hfin:=BL.out.trans (hcur.mono BL.out.size)
  have hown:=hown
  go_wp2
  go_ret
  exact ⟨A2,c2,rfl,owns_base hown (Nat.le_trans BL.out.size hM),hfin⟩)
theorem maybe_any (v a g:Int) (w:World):Calls Tryz.prog 125 #[supV v a g] w fun e w'=>e=.returned (.bool (decide (arS a)))∧Below w.heap.size w w':=by
 have x:=Blk.new w 29 [.int .u32 v,.int .i64 a,.int .u64 g]
 have hbel:Below w.heap.size w (w.alloc (.cells #[.int .u32 v,.int .i64 a,.int .u64 g] 29)):=(Below.refl _ _).alloc (Nat.le_refl _) _
 obtain ⟨c0,c1,c2⟩:=x.tri
 have B:=Lh hbel
 have ev:(v == v)=true:=beq_self_eq_true _
 have eg:(g == g)=true:=beq_self_eq_true _
 have EQ:=fun (k:Int) (wx:World)=>eq_sup v a g v k g wx
 obtain ⟨r,hr⟩:∃ r,r=decide (arS a):=⟨_,rfl⟩
 rw [← hr]
 have HR:=Lh hr
 clear x hbel hr
 go_enter Tryz.func125,Tryz.ntmps125
 go_wp2
 go_loop [4,3] (fun i _=>∃ k:Nat,k≤2∧i=.int .i64 k∧∀ j:Nat,j < k→a≠(j:Int)) (fun i _=>2 - (intOf i).toNat)
 case atStart=>exact ⟨0,Nat.zero_le _,rfl,fun j h=>absurd h (Nat.not_lt_zero _)⟩
 case round =>
  obtain ⟨k,hk,rfl,hn⟩:=hrel
  have HN:=Lh hn
  clear hn
  by_cases hkm:k < 2
  ·have hki:(k:Int) < 2:=by omega
   by_cases hak:a=(k:Int)
   ·have hb1:(a == (k:Int))=true:=beq_iff_eq.2 hak
    have hd:r=true:=HR.out.trans (decide_eq_true (by unfold arS;omega))
    subst hd
    clear hak
    go_wp2
    go_ret
    exact ⟨rfl,B.out⟩
   ·have hb1:(a == (k:Int))=false:=beq_eq_false_iff_ne.2 hak
    have HAK:=Lh hak
    clear hak
    go_wp2
    go_round
    case rel =>
     refine ⟨k + 1,by omega,by go_num,fun j hj=>?_⟩
     by_cases e:j=k
     ·rw [e];exact HAK.out
     ·exact HN.out j (by omega)
    case measure=>simp [intOf];omega
  ·obtain rfl:k=2:=by omega
   have hd:r=false:=HR.out.trans (decide_eq_false (by
    have h0:=HN.out 0 (by omega)
    have h1:=HN.out 1 (by omega)
    unfold arS
    omega))
   subst hd
   go_wp2
   go_ret
   exact ⟨rfl,B.out⟩
end Go.Proofs.YtifgcfepbenpjaaGreat
namespace Go.Proofs.YtifgcfepbenpjaaGreat
open Go.RowKit Go.OpenShut Go.ChangeShapes Go.WideShapes Go.Deep Go.Joins
abbrev recV (r:Rc):Value:=.agg #[.int .i64 r.p,.int .u32 r.b,.int .u32 r.e,.int .i64 r.l,.int .u8 r.h,.int .i64 r.f,.bool r.q,.bool r.a]
abbrev recL (r:Rc):List Value:=[.int .i64 r.p,.int .u32 r.b,.int .u32 r.e,.int .i64 r.l,.int .u8 r.h,.int .i64 r.f,.bool r.q,.bool r.a]
theorem eq_rec (r s:Rc) (w:World):(Op.equalIn 10000 64 (recV r) (recV s)).run Tryz.prog w=.ok (decide (r=s)) w:=by
 have u1:=Tryz.underlying26
 have u2:=Tryz.underlying3
 have u3:=Tryz.underlying5
 have u4:=Tryz.underlying4
 have hS:Tryz.prog.underlying 64=some (.struct (Tryz.prog.fieldsOf 64)):=by kernel_rfl
 have hp:Tryz.prog.stoodInHeld 64=false:=by kernel_rfl
 have e:decide (r=s)=(r.p == s.p && r.b == s.b && r.e == s.e && r.l == s.l && r.h == s.h && r.f == s.f && r.q == s.q && r.a == s.a):=by
  rw [Bool.eq_iff_iff]
  simp [Rc.eq_iff,and_assoc]
 rw [e,show (10000:Nat)=9999 + 1 from rfl,run_equalIn_agg w 9999 64 _ _ hS hp]
 simp only [Program.fieldsOf,Tryz.underlying64]
 go_simp
 by_cases h1:r.p=s.p <;> by_cases h2:r.b=s.b <;> by_cases h3:r.e=s.e <;> by_cases h4:r.l=s.l <;> by_cases h5:r.h=s.h <;> by_cases h6:r.f=s.f <;> by_cases h7:r.q=s.q <;> by_cases h8:r.a=s.a <;> simp [h1,h2,h3,h4,h5,h6,h7,h8]
theorem rec_info:(Tryz.prog.info? 64).map (fun i=>(i.zero,i.size,i.bytes))=some (some (recV zR),8,48):=by kernel_rfl
def recsV (L:List Rc):List Value:=L.flatMap recL
theorem recsV_length (L:List Rc):(recsV L).length=L.length * 8:=by
 induction L with
 | nil=>rfl
 | cons r L ih=>unfold recsV at ih ⊢;rw [List.flatMap_cons,List.length_append,ih];simp;omega
theorem recsV_at {L:List Rc} {i j:Nat} (hi:i < L.length) (hj:j < 8):(recsV L)[i * 8 + j]?=(recL (L.getD i zR))[j]?:=by
 induction L generalizing i with
 | nil=>exact absurd hi (Nat.not_lt_zero _)
 | cons r L ih =>
  have e:recsV (r :: L)=recL r ++ recsV L:=rfl
  rw [e]
  cases i with
  | zero =>
   rw [Nat.zero_mul,Nat.zero_add,List.getElem?_append_left (by simpa using hj)]
   rfl
  | succ i =>
   rw [List.getElem?_append_right (by simp;omega),show (i + 1) * 8 + j - (recL r).length=i * 8 + j by simp;omega,ih (by simpa using hi)]
   rfl
theorem recsV_app (L M:List Rc):recsV (L ++ M)=recsV L ++ recsV M:=List.flatMap_append
theorem recsV_one (r:Rc):recsV [r]=recL r:=by simp [recsV]
theorem one_rec (r:Rc):∀ v ∈ recL r,v.oneCell'=true:=by intro v hv;simp at hv;rcases hv with rfl | rfl | rfl | rfl | rfl | rfl | rfl | rfl <;> rfl
theorem one_recs (L:List Rc):∀ v ∈ recsV L,v.oneCell'=true:=fun v hv=>by
 obtain ⟨r,_,h⟩:=List.mem_flatMap.1 hv
 exact one_rec r v h
structure Recs (w:World) (A:Option Addr) (n c:Nat) (L:List Rc):Prop where
 len:L.length=n
 cap:n≤c
 max:c≤maxLen
 is:allR L
 at_:∀ i,i < n→∃ b o,A=some ⟨b,o,none⟩∧b < w.heap.size∧∀ j v,(recL (L.getD i zR))[j]?=some v→w.cell? ⟨b,o + i * 8 + j,none⟩=some v
section
variable {w w':World} {A:Option Addr} {n c:Nat} {L:List Rc}
theorem Recs.below (h:Recs w A n c L) (hb:Below w.heap.size w w'):Recs w' A n c L :=
 ⟨h.len,h.cap,h.max,h.is,fun i hi=>by
  obtain ⟨b,o,e,hlt,hc⟩:=h.at_ i hi
  exact ⟨b,o,e,Nat.lt_of_lt_of_le hlt hb.size,fun j v hv=>(hb.cell (p:=⟨b,_,none⟩) hlt).trans (hc j v hv)⟩⟩
theorem Recs.row (h:Recs w A n c L) {i:Nat} (hi:i < n):∃ b o,A=some ⟨b,o,none⟩∧b < w.heap.size∧w.cell? ⟨b,o + i * 8,none⟩=some (.int .i64 (L.getD i zR).p)∧w.cell? ⟨b,o + i * 8 + 1,none⟩=some (.int .u32 (L.getD i zR).b)∧w.cell? ⟨b,o + i * 8 + 2,none⟩=some (.int .u32 (L.getD i zR).e) ∧
  w.cell? ⟨b,o + i * 8 + 3,none⟩=some (.int .i64 (L.getD i zR).l)∧w.cell? ⟨b,o + i * 8 + 4,none⟩=some (.int .u8 (L.getD i zR).h)∧w.cell? ⟨b,o + i * 8 + 5,none⟩=some (.int .i64 (L.getD i zR).f)∧w.cell? ⟨b,o + i * 8 + 6,none⟩=some (.bool (L.getD i zR).q)∧w.cell? ⟨b,o + i * 8 + 7,none⟩=some (.bool (L.getD i zR).a):=by
 obtain ⟨b,o,e,hlt,hc⟩:=h.at_ i hi
 exact ⟨b,o,e,hlt,hc 0 _ rfl,hc 1 _ rfl,hc 2 _ rfl,hc 3 _ rfl,hc 4 _ rfl,hc 5 _ rfl,hc 6 _ rfl,hc 7 _ rfl⟩
theorem Recs.is_at (h:Recs w A n c L) {i:Nat} (hi:i < n):isR (L.getD i zR):=by
 have:=h.len
 rw [gtD,geE (by omega)]
 exact h.is _ (List.getElem_mem _)
theorem Recs.seq (h:Recs w A n c L):Seq w w.heap.size A (recsV L):=fun k v hv=>by
 have hk:k < L.length * 8:=by
  rcases Nat.lt_or_ge k (recsV L).length with hk | hk
  ·rwa [recsV_length] at hk
  ·rw [List.getElem?_eq_none hk] at hv;cases hv
 have e:k=(k / 8) * 8 + k % 8:=by omega
 obtain ⟨b,o,ea,hlt,hc⟩:=h.at_ (k / 8) (by have:=h.len;omega)
 have h2:=recsV_at (L:=L) (i:=k / 8) (j:=k % 8) (by omega) (by omega)
 rw [← e] at h2
 have h3:=hc (k % 8) v (by rw [← h2];exact hv)
 refine ⟨b,o,ea,hlt,?_⟩
 rw [Nat.add_assoc,← e] at h3
 exact h3
end
def OwnRecs (w:World) (base:Nat) (A:Option Addr) (n c:Nat) (L:List Rc):Prop:=w.ownsRow base 64 8 (.slice A n c) n (recsV L)∧L.length=n∧allR L
section
variable {w w':World} {base base':Nat} {A:Option Addr} {n c:Nat} {L:List Rc}
theorem Recs.of_own (h:OwnRecs w base A n c L):Recs w A n c L:=by
 obtain ⟨hown,hl,ha⟩:=h
 refine ⟨hl,?_,?_,ha,fun i hi=>?_⟩
 ·rcases hown.2 with ⟨e,h0⟩ | ⟨g,cap,cur,e,_,_,h1,h2,_⟩ <;> cases e
  ·exact Nat.le_refl _
  ·exact h1
 ·rcases hown.2 with ⟨e,h0⟩ | ⟨g,cap,cur,e,_,_,h1,h2,_⟩ <;> cases e
  ·decide
  ·exact h2
 ·have h0:(recsV L)[i * 8 + 0]?=some (.int .i64 (L.getD i zR).p):=by rw [recsV_at (by omega) (by omega)];rfl
  obtain ⟨b,e,hlt,_⟩:=owns_cell hown h0
  refine ⟨b,0,e,hlt,fun j v hv=>?_⟩
  have hj:j < 8:=by
   rcases Nat.lt_or_ge j 8 with hj | hj
   ·exact hj
   ·rw [List.getElem?_eq_none (by simpa using hj)] at hv;cases hv
  have h1:(recsV L)[i * 8 + j]?=some v:=by rw [recsV_at (by omega) hj];exact hv
  obtain ⟨b',e',_,hc⟩:=owns_cell hown h1
  rw [e] at e'
  cases e'
  rw [Nat.zero_add]
  exact hc
theorem OwnRecs.below (h:OwnRecs w base A n c L) (hb:Below w.heap.size w w'):OwnRecs w' base A n c L:=⟨owns_below h.1 hb,h.2.1,h.2.2⟩
theorem OwnRecs.lower (h:OwnRecs w base A n c L) (hb:base'≤base):OwnRecs w base' A n c L:=⟨owns_base h.1 hb,h.2.1,h.2.2⟩
theorem OwnRecs.nil (w:World) (base:Nat):OwnRecs w base none 0 0 []:=⟨World.ownsRow_nil _ _ _ _,rfl,fun r hr=>by cases hr⟩
theorem OwnRecs.keep (h:OwnRecs w base A n c L) (hk:∀ (g:Nat) (cs:Array Value),base≤g→w.heap[g]?=some (.cells cs 64 (0,0))→w'.heap[g]?=w.heap[g]?):OwnRecs w' base A n c L :=
 ⟨owns_keep h.1 fun g cs hg hc=>hk g cs hg hc,h.2.1,h.2.2⟩
theorem OwnRecs.away (h:OwnRecs w base A n c L) {g:Nat} (hg:g < base) (i:Nat) (u:Value):OwnRecs (w.setCell ⟨g,i,none⟩ u) base A n c L :=
 h.keep fun g' _ hb hc=>(grownBy_set w g i u).block g' (Array.getElem?_eq_some_iff.1 hc).1 (fun e=>by injection e with e;omega)
theorem run_recs (w0 w:World) (ty:TypeId) (A0:Option Addr) (n0 c0:Nat) (M:List Rc) (hown:OwnRecs w base A0 n0 c0 M) (r:Rc) (hr:isR r) (h63:n0 + 1≤100000) (hbel:Below base w0 w) (hw0:base≤w0.heap.size) :
  ∃ A' c' w',(Builtin.append_ #[30,30] ty #[.slice A0 n0 c0,.slice (some ⟨w.heap.size,0,none⟩) 1 1]).run Tryz.prog (w.alloc (.cells (recL r).toArray 64))=.ok (.slice A' (n0 + 1) c') w'∧OwnRecs w' base A' (n0 + 1) c' (M ++ [r])∧Below base w0 w'∧(w.alloc (.cells (recL r).toArray 64)).grownBy w' (Value.slice A0 n0 c0).ownBlock:=by
 obtain ⟨i,hi,hz,hsize,hby⟩:=info_parts rec_info
 have hml:(100000:Nat)≤maxLen:=by decide
 have hbase:base≤w.heap.size:=Nat.le_trans hw0 hbel.size
 have hlit:=Blk.new w 64 (recL r)
 have hcs:∀ j u,(recL r)[j]?=some u→(w.alloc (.cells (recL r).toArray 64)).cell? ((⟨w.heap.size,0,none⟩:Addr).add j)=some u:=by
  intro j u hu
  have e2:(⟨w.heap.size,0,none⟩:Addr).add j=⟨w.heap.size,0 + j,none⟩:=by unfold Addr.add;split <;> simp_all
  rw [e2,Nat.zero_add,hlit.cell j]
  exact hu
 obtain ⟨v',w',h,r2,r3,_,_⟩:=run_append_own_at (P:=Tryz.prog) (w.alloc (.cells (recL r).toArray 64)) base 30 ty 64 i _ 8 48 Tryz.underlying30 hi hz hsize hby rfl (by omega) _ n0 (recsV M) (hown.1.alloc _) ⟨w.heap.size,0,none⟩ 1 1 (recL r) rfl hcs (one_rec r) (by omega) (by omega) (by simp;omega)
 obtain ⟨g',c',rfl⟩:=ownsRow_some r2
 refine ⟨some ⟨g',0,none⟩,c',w',h,⟨by rw [recsV_app,recsV_one];exact r2,by simp [hown.2.1],fun s hs=>?_⟩,(hbel.alloc hbase _).grown r3 (by simp;omega) (fun g e=>(hown.1.lt g e).1),r3⟩
 rcases List.mem_append.1 hs with hs | hs
 ·exact hown.2.2 s hs
 ·rw [List.mem_singleton.1 hs];exact hr
end
theorem wpList_recs (w0 w:World) {ops:Array Oper} {rest:List Oper} {o:Oper} {a:Act} {Q:Exit→Act→World→Prop} (hw:Region.wanted o (yielded ops a.tmps)=true) (s x:Operand)
  (ho:o.op=.call { callee:=.builtin .append,args:=#[s,x],argTypes:=#[30,30] }) (base:Nat) (A0:Option Addr) (n c0:Nat) (M:List Rc) (hs:a.eval s=.slice A0 n c0) (hown:OwnRecs w base A0 n c0 M)
  (r:Rc) (hr:isR r) (hx:a.eval x=.slice (some ⟨w.heap.size,0,none⟩) 1 1) (h63:n + 1≤100000) (hbel:Below base w0 w) (hw0:base≤w0.heap.size)
  (h:∀ A' c' w',OwnRecs w' base A' (n + 1) c' (M ++ [r])→Below base w0 w'→wpList Tryz.prog ops Q rest (a.put o.dst (.slice A' (n + 1) c')) w'):wpList Tryz.prog ops Q (o :: rest) a (w.alloc (.cells (recL r).toArray 64)):=by
 refine wpList_want hw fun K hK=>?_
 obtain ⟨A',c',w',hrun,h2,h3,_⟩:=run_recs w0 w o.type A0 n c0 M hown r hr h63 hbel hw0
 unfold Oper.wp execOp
 simp only [ho,resolve,invoke,builtin,Sem.run_bind,Sem.run_pure,Result.andThen_ok,List.map_toArray,List.map_cons,List.map_nil,hs,hx,hrun]
 exact hK _ _ (h A' c' w' h2 h3)
end Go.Proofs.YtifgcfepbenpjaaGreat
namespace Go.Proofs.YtifgcfepbenpjaaGreat
open Go.RowKit
theorem wpList_dup_recs (w:World) {ops:Array Oper} {rest:List Oper} {o:Oper} {a:Act} {Q:Exit→Act→World→Prop} (hw:Region.wanted o (yielded ops a.tmps)=true) (s x:Operand)
  (ho:o.op=.call { callee:=.builtin .append,args:=#[s,x],argTypes:=#[30,30] }) (hs:a.eval s=.slice (some ⟨w.heap.size,0,none⟩) 0 0)
  (A:Option Addr) (m c:Nat) (L:List Rc) (hx:a.eval x=.slice A m c) (hr:Recs w A m c L) (h63:m≤100000)
  (h:∀ A' c' w',OwnRecs w' w.heap.size A' m c' L→Below w.heap.size w w'→wpList Tryz.prog ops Q rest (a.put o.dst (.slice A' m c')) w'):wpList Tryz.prog ops Q (o :: rest) a (w.alloc (.cells #[] 64)):=by
 refine wpList_want hw fun K hK=>?_
 obtain ⟨i,hi,hz,hsize,hby⟩:=info_parts rec_info
 have hml:(100000:Nat)≤maxLen:=by decide
 have hb1:Below w.heap.size w (w.alloc (.cells #[] 64)):=(Below.refl _ _).alloc (Nat.le_refl _) _
 have hlit:(w.alloc (.cells #[] 64)).ownsRow w.heap.size 64 8 (.slice (some ⟨w.heap.size,0,none⟩) 0 0) 0 []:=⟨rfl,.inr ⟨w.heap.size,0,#[],rfl,Nat.le_refl _,heap_alloc_new w _,Nat.le_refl _,by decide,rfl,rfl⟩⟩
 have key:∃ A' c' w',(Builtin.append_ #[30,30] o.type #[.slice (some ⟨w.heap.size,0,none⟩) 0 0,.slice A m c]).run Tryz.prog (w.alloc (.cells #[] 64))=.ok (.slice A' m c') w'∧OwnRecs w' w.heap.size A' m c' L∧Below w.heap.size w w':=by
  cases A with
  | none =>
   have hm0:m=0:=by
    rcases Nat.eq_zero_or_pos m with h0 | h0
    ·exact h0
    ·obtain ⟨_,_,e,_⟩:=hr.at_ 0 h0
     cases e
   subst hm0
   have hL:L=[]:=List.eq_nil_of_length_eq_zero hr.len
   subst hL
   refine ⟨some ⟨w.heap.size,0,none⟩,0,_,?_,⟨hlit,rfl,fun r hr=>by cases hr⟩,hb1⟩
   simp [Builtin.append_,run_underlying Tryz.underlying30,sizeOf,typeInfo,hi,Builtin.lenOf,Builtin.firstCells,storeCells]
  | some ad =>
   have hsq:=(hr.below hb1).seq
   have hcs:∀ j u,(recsV L)[j]?=some u→(w.alloc (.cells #[] 64)).cell? (ad.add j)=some u:=by
    intro j u hu
    obtain ⟨b,o',e,_,hc⟩:=hsq j u hu
    have e:=Option.some.inj e
    subst e
    have e2:(⟨b,o',none⟩:Addr).add j=⟨b,o' + j,none⟩:=by unfold Addr.add;split <;> simp_all
    rw [e2]
    exact hc
   obtain ⟨v',w',hrun,h2,h3,_,h5⟩:=run_append_own_at (P:=Tryz.prog) (w.alloc (.cells #[] 64)) w.heap.size 30 o.type 64 i _ 8 48 Tryz.underlying30 hi hz hsize hby rfl (by omega) _ 0 [] hlit ad m c (recsV L) (by rw [recsV_length,hr.len]) hcs (one_recs L) (by omega) (by omega) (by simp)
   rw [Nat.zero_add,List.nil_append] at h2
   have hv:∃ A' c',v'=.slice A' m c':=by
    rcases h2.2 with ⟨rfl,rfl⟩ | ⟨g,cap,cur,rfl,_⟩
    ·exact ⟨_,_,rfl⟩
    ·exact ⟨_,_,rfl⟩
   obtain ⟨A',c',rfl⟩:=hv
   exact ⟨A',c',w',hrun,⟨h2,hr.len,hr.is⟩,hb1.grown h3 hb1.size (fun g e=>by have e:some w.heap.size=some g:=e;injection e with e;omega)⟩
 obtain ⟨A',c',w',hrun,h2,h3⟩:=key
 unfold Oper.wp execOp
 simp only [ho,resolve,invoke,builtin,Sem.run_bind,Sem.run_pure,Result.andThen_ok,List.map_toArray,List.map_cons,List.map_nil,hs,hx,hrun]
 exact hK _ _ (h A' c' w' h2 h3)
end Go.Proofs.YtifgcfepbenpjaaGreat
