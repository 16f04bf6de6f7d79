/- Texts of the layers below, joined. -/
import Derived.Test.YtdbeiikaeccbhaaDa38
import Derived.KernelRfl
import Derived.Deep.RegionHeld3
set_option maxRecDepth 100000
set_option maxHeartbeats 12800000
set_option linter.unusedVariables false
namespace Go.Proofs.Ytdbeiikaeccbhaa
open Go.RowKit
set_option maxRecDepth 100000
theorem two14_any (w:World):Calls Try.prog 8 #[] w fun e w'=>e=.returned (cfgV 2 9 4 2 2 8)∧Below w.heap.size w w':=by
 have y:=Blk.new w 28 [.int .i64 2,.int .i64 9,.int .i64 4,.int .i64 2,.int .i64 2,.int .i64 8]
 obtain ⟨z0,z1,z2,z3,z4,z5⟩:=y.cfg
 have hb:Below w.heap.size w (w.alloc (.cells #[.int .i64 2,.int .i64 9,.int .i64 4,.int .i64 2,.int .i64 2,.int .i64 8] 28)):=(Below.refl _ _).alloc (Nat.le_refl _) _
 have HB:=Lh hb
 clear y hb
 go_enter Try.func8,Try.ntmps8
 go_wp2
 refine bodyPost_ret (v:=cfgV 2 9 4 2 2 8) ?_ rfl ⟨rfl,HB.out⟩
 simp [results,Try.f8,go_sem,z0,z1,z2,z3,z4,z5]
theorem two_lits (w:World) (x y z u:Int):Arg ((w.alloc (.cells #[.int .u8 x,.int .u8 y] 5)).alloc (.cells #[.int .u8 z,.int .u8 u] 5)) .u8 (some ⟨w.heap.size,0,none⟩) 2 2 [x,y]∧Arg ((w.alloc (.cells #[.int .u8 x,.int .u8 y] 5)).alloc (.cells #[.int .u8 z,.int .u8 u] 5)) .u8 (some ⟨w.heap.size + 1,0,none⟩) 2 2 [z,u] ∧
  Below w.heap.size w ((w.alloc (.cells #[.int .u8 x,.int .u8 y] 5)).alloc (.cells #[.int .u8 z,.int .u8 u] 5)):=by
 have h1:=lit_textJ w w.heap.size (0,0) [x,y] 2 rfl rfl (by decide)
 have h2:=lit_textJ (w.alloc (.cells #[.int .u8 x,.int .u8 y] 5)) (w.heap.size + 1) (0,0) [z,u] 2 (by simp) rfl (by decide)
 have hb:Below w.heap.size w (w.alloc (.cells #[.int .u8 x,.int .u8 y] 5)):=(Below.refl _ _).alloc (Nat.le_refl _) _
 exact ⟨h1.below ((Below.refl _ _).alloc (Nat.le_refl _) _),h2,hb.alloc hb.size _⟩
theorem few_bytes {l:Txt} (h:(l.all fun z=>decide (0≤z) && decide (z < 256))=true):∀ z ∈ l,isByte z:=fun z hz=>by
 have:=List.all_eq_true.1 h z hz
 rw [Bool.and_eq_true,decide_eq_true_iff,decide_eq_true_iff] at this
 exact this
theorem d_mark (DD:DiffDoes) {p t E:Int} {a b o:Txt} {l:List Ac} {n n1 m nl:Nat} (ha:∀ z ∈ a,isByte z) (hb:∀ z ∈ b,isByte z) (hn:n≤100) (hn1:n1≤100) (hE:dmE 2 9 4 2 2 8 p a b t=E) (hB:dmB 2 9 4 2 2 8 p a b t=o) (hL:actW (dmP 2 9 4 2 2 8 p a b t)=l) (hm:o.length=m) (hnl:l.length=nl) (D:Option Addr) (c:Nat) (D1:Option Addr) (c1:Nat) (w:World) (h0:Arg w .u8 D n c a) (h1:Arg w .u8 D1 n1 c1 b) :
  Calls Try.prog 7 #[cfgV 2 9 4 2 2 8,.int .i64 p,.slice D n c,.slice D1 n1 c1,.int .i64 t] w fun e w'=>∃ A c A' c',e=.returned (.tuple #[.slice A m c,.slice A' nl c',.int .i64 E])∧w'.ownsRow w.heap.size 5 1 (.slice A m c) m (ints .u8 o)∧OwnActs w' w.heap.size A' nl c' l∧Below w.heap.size w w':=by
 have r:=DD.mark 2 9 4 2 2 8 p D n c a D1 n1 c1 b t w h0 h1 ha hb hn hn1
 unfold MkOut at r
 rw [hE,hB,hL] at r
 subst hm
 subst hnl
 exact r
theorem d_clean (DD:DiffDoes) {p E:Int} {a b o:Txt} {l:List Ac} {n n1 m nl:Nat} (ha:∀ z ∈ a,isByte z) (hb:∀ z ∈ b,isByte z) (hn:n≤100) (hn1:n1≤100) (hE:dfE 2 9 4 2 2 8 p a b=E) (hB:dcB 2 9 4 2 2 8 p a b=o) (hL:actW (dcP 2 9 4 2 2 8 p a b)=l) (hm:o.length=m) (hnl:l.length=nl) (D:Option Addr) (c:Nat) (D1:Option Addr) (c1:Nat) (w:World) (h0:Arg w .u8 D n c a) (h1:Arg w .u8 D1 n1 c1 b) :
  Calls Try.prog 9 #[cfgV 2 9 4 2 2 8,.int .i64 p,.slice D n c,.slice D1 n1 c1] w fun e w'=>∃ A c A' c',e=.returned (.tuple #[.slice A m c,.slice A' nl c',.int .i64 E])∧w'.ownsRow w.heap.size 5 1 (.slice A m c) m (ints .u8 o)∧OwnActs w' w.heap.size A' nl c' l∧Below w.heap.size w w':=by
 have r:=DD.clean 2 9 4 2 2 8 p D n c a D1 n1 c1 b w h0 h1 ha hb hn hn1
 unfold MkOut at r
 rw [hE,hB,hL] at r
 subst hm
 subst hnl
 exact r
theorem d_fill (DD:DiffDoes) {p E:Int} {a o:Txt} {l:List Ac} {n m nl:Nat} (ha:∀ z ∈ a,isByte z) (hn:n≤100) (hE:dfE 2 9 4 2 2 8 p a a=E) (hB:diB 2 9 4 2 2 8 p a=o) (hL:actW (diP 2 9 4 2 2 8 p a)=l) (hm:o.length=m) (hnl:l.length=nl) (D:Option Addr) (c:Nat) (w:World) (h0:Arg w .u8 D n c a) :
  Calls Try.prog 10 #[cfgV 2 9 4 2 2 8,.int .i64 p,.slice D n c] w fun e w'=>∃ A c A' c',e=.returned (.tuple #[.slice A m c,.slice A' nl c',.int .i64 E])∧w'.ownsRow w.heap.size 5 1 (.slice A m c) m (ints .u8 o)∧OwnActs w' w.heap.size A' nl c' l∧Below w.heap.size w w':=by
 have r:=DD.fill 2 9 4 2 2 8 p D n c a w h0 ha hn
 unfold MkOut at r
 rw [hE,hB,hL] at r
 subst hm
 subst hnl
 exact r
theorem d_str41:(strOfNums [4,1]).toList=([4,1]:List UInt8):=by kernel_rfl
theorem d_str21:(strOfNums [2,1]).toList=([2,1]:List UInt8):=by kernel_rfl
theorem d_str01:(strOfNums [0,1]).toList=([0,1]:List UInt8):=by kernel_rfl
theorem alive_diff (DD:DiffDoes) (w:World):Calls Try.prog 12 #[] w fun e w'=>e=.returned (.bool true)∧Below w.heap.size w w':=by
 have B:=Lh (Below.refl w.heap.size w)
 have K1:=Lh (fun D c D1 c1 wx hx hy=>d_mark DD (p:=0) (t:=2) (a:=[2,1]) (b:=[0,1]) (E:=0) (o:=[4,1]) (l:=[(1,10,pgSec 0 0 4),(2,0,[])]) (n:=2) (n1:=2) (m:=2) (nl:=2) (few_bytes (by decide)) (few_bytes (by decide)) (by decide) (by decide) (by kernel_rfl) (by kernel_rfl) (by kernel_rfl) rfl rfl D c D1 c1 wx hx hy)
 have K2:=Lh (fun D c D1 c1 wx hx hy=>d_mark DD (p:=0) (t:=8) (a:=[2,1]) (b:=[0,1]) (E:=0) (o:=[2,1]) (l:=[]) (n:=2) (n1:=2) (m:=2) (nl:=0) (few_bytes (by decide)) (few_bytes (by decide)) (by decide) (by decide) (by kernel_rfl) (by kernel_rfl) (by kernel_rfl) rfl rfl D c D1 c1 wx hx hy)
 have K3:=Lh (fun D c D1 c1 wx hx hy=>d_clean DD (p:=0) (a:=[2,1]) (b:=[0,1]) (E:=0) (o:=[0,1]) (l:=[(1,10,pgSec 0 0 0),(2,0,[])]) (n:=2) (n1:=2) (m:=2) (nl:=2) (few_bytes (by decide)) (few_bytes (by decide)) (by decide) (by decide) (by kernel_rfl) (by kernel_rfl) (by kernel_rfl) rfl rfl D c D1 c1 wx hx hy)
 have K4:=Lh (fun D c D1 c1 wx hx hy=>d_clean DD (p:=0) (a:=[2,1]) (b:=[2,1]) (E:=0) (o:=[2,1]) (l:=[]) (n:=2) (n1:=2) (m:=2) (nl:=0) (few_bytes (by decide)) (few_bytes (by decide)) (by decide) (by decide) (by kernel_rfl) (by kernel_rfl) (by kernel_rfl) rfl rfl D c D1 c1 wx hx hy)
 clear DD
 go_enter Try.func12,Try.ntmps12
 go_wp2_with fail
 refine (two14_any _).mono ?_
 rintro e v1 ⟨rfl,hb⟩
 have B:=Lh (B.out.trans (hb.mono B.out.size))
 clear hb
 obtain ⟨la,lb,hk⟩:=two_lits v1 2 1 0 1
 obtain ⟨v2,hW⟩:∃ x:World,x=(v1.alloc (.cells #[.int .u8 2,.int .u8 1] 5)).alloc (.cells #[.int .u8 0,.int .u8 1] 5):=⟨_,rfl⟩
 rw [← hW] at la lb hk
 have B:=Lh (B.out.trans (hk.mono B.out.size))
 have LA:=Lh la
 have LB:=Lh lb
 clear la lb hk
 go_wp2_with fail
 rw [← hW]
 clear hW
 refine (K1.out _ _ _ _ _ LA.out LB.out).mono ?_
 rintro e v3 ⟨A1,r1,A1',r1',rfl,hown,hact,hb⟩
 have B:=Lh (B.out.trans (hb.mono B.out.size))
 have V1:=Lh (Arg.own hown)
 clear hb hown hact LA LB
 go_wp2_with fail
 refine (two14_any _).mono ?_
 rintro e v4 ⟨rfl,hb⟩
 have B:=Lh (B.out.trans (hb.mono B.out.size))
 have V1:=Lh (V1.out.below hb)
 clear hb
 obtain ⟨la,lb,hk⟩:=two_lits v4 2 1 0 1
 obtain ⟨v5,hW⟩:∃ x:World,x=(v4.alloc (.cells #[.int .u8 2,.int .u8 1] 5)).alloc (.cells #[.int .u8 0,.int .u8 1] 5):=⟨_,rfl⟩
 rw [← hW] at la lb hk
 have B:=Lh (B.out.trans (hk.mono B.out.size))
 have V1:=Lh (V1.out.below hk)
 have LA:=Lh la
 have LB:=Lh lb
 clear la lb hk
 go_wp2_with fail
 rw [← hW]
 clear hW
 refine (K2.out _ _ _ _ _ LA.out LB.out).mono ?_
 rintro e v6 ⟨A2,r2,A2',r2',rfl,hown,hact,hb⟩
 have B:=Lh (B.out.trans (hb.mono B.out.size))
 have V1:=Lh (V1.out.below hb)
 have V2:=Lh (Arg.own hown)
 clear hb hown hact LA LB
 go_wp2_with fail
 refine (two14_any _).mono ?_
 rintro e v7 ⟨rfl,hb⟩
 have B:=Lh (B.out.trans (hb.mono B.out.size))
 have V1:=Lh (V1.out.below hb)
 have V2:=Lh (V2.out.below hb)
 clear hb
 obtain ⟨la,lb,hk⟩:=two_lits v7 2 1 0 1
 obtain ⟨v8,hW⟩:∃ x:World,x=(v7.alloc (.cells #[.int .u8 2,.int .u8 1] 5)).alloc (.cells #[.int .u8 0,.int .u8 1] 5):=⟨_,rfl⟩
 rw [← hW] at la lb hk
 have B:=Lh (B.out.trans (hk.mono B.out.size))
 have V1:=Lh (V1.out.below hk)
 have V2:=Lh (V2.out.below hk)
 have LA:=Lh la
 have LB:=Lh lb
 clear la lb hk
 go_wp2_with fail
 rw [← hW]
 clear hW
 refine (K3.out _ _ _ _ _ LA.out LB.out).mono ?_
 rintro e v9 ⟨A3,r3,A3',r3',rfl,hown,hact,hb⟩
 have B:=Lh (B.out.trans (hb.mono B.out.size))
 have V1:=Lh (V1.out.below hb)
 have V2:=Lh (V2.out.below hb)
 have V3:=Lh (Arg.own hown)
 clear hb hown hact LA LB
 go_wp2_with fail
 refine (two14_any _).mono ?_
 rintro e v10 ⟨rfl,hb⟩
 have B:=Lh (B.out.trans (hb.mono B.out.size))
 have V1:=Lh (V1.out.below hb)
 have V2:=Lh (V2.out.below hb)
 have V3:=Lh (V3.out.below hb)
 clear hb
 obtain ⟨la,lb,hk⟩:=two_lits v10 2 1 2 1
 obtain ⟨v11,hW⟩:∃ x:World,x=(v10.alloc (.cells #[.int .u8 2,.int .u8 1] 5)).alloc (.cells #[.int .u8 2,.int .u8 1] 5):=⟨_,rfl⟩
 rw [← hW] at la lb hk
 have B:=Lh (B.out.trans (hk.mono B.out.size))
 have V1:=Lh (V1.out.below hk)
 have V2:=Lh (V2.out.below hk)
 have V3:=Lh (V3.out.below hk)
 have LA:=Lh la
 have LB:=Lh lb
 clear la lb hk
 go_wp2_with fail
 rw [← hW]
 clear hW
 refine (K4.out _ _ _ _ _ LA.out LB.out).mono ?_
 rintro e v12 ⟨A4,r4,A4',r4',rfl,hown,hact,hb⟩
 have B:=Lh (B.out.trans (hb.mono B.out.size))
 have V1:=Lh (V1.out.below hb)
 have V2:=Lh (V2.out.below hb)
 have V3:=Lh (V3.out.below hb)
 have V4:=Lh (Arg.own hown)
 clear hb hown hact LA LB
 have q1:=str_arg V1.out
 have q2:=str_arg V2.out
 have q3:=str_arg V3.out
 have q4:=str_arg V4.out
 have s1:=d_str41
 have s2:=d_str21
 have s3:=d_str01
 go_wp2
 go_ret
 exact ⟨rfl,B.out⟩
set_option maxRecDepth 100000
theorem d_p:pxE 2 9 4 2 2 8 1 1 1=0∧pxT 2 9 4 2 2 8 1 1 1=pgSec 1 1 1∧pxN 2 9 4 2 2 8 1 1 1=13:=⟨by kernel_rfl,by kernel_rfl,by kernel_rfl⟩
theorem two_lits1 (w:World) (x y z:Int):Arg ((w.alloc (.cells #[.int .u8 x,.int .u8 y] 5)).alloc (.cells #[.int .u8 z] 5)) .u8 (some ⟨w.heap.size,0,none⟩) 2 2 [x,y]∧Arg ((w.alloc (.cells #[.int .u8 x,.int .u8 y] 5)).alloc (.cells #[.int .u8 z] 5)) .u8 (some ⟨w.heap.size + 1,0,none⟩) 1 1 [z] ∧
  Below w.heap.size w ((w.alloc (.cells #[.int .u8 x,.int .u8 y] 5)).alloc (.cells #[.int .u8 z] 5)):=by
 have h1:=lit_textJ w w.heap.size (0,0) [x,y] 2 rfl rfl (by decide)
 have h2:=lit_textJ (w.alloc (.cells #[.int .u8 x,.int .u8 y] 5)) (w.heap.size + 1) (0,0) [z] 1 (by simp) rfl (by decide)
 have hb:Below w.heap.size w (w.alloc (.cells #[.int .u8 x,.int .u8 y] 5)):=(Below.refl _ _).alloc (Nat.le_refl _) _
 exact ⟨h1.below ((Below.refl _ _).alloc (Nat.le_refl _) _),h2,hb.alloc hb.size _⟩
theorem one_lit (w:World) (x y:Int):Arg (w.alloc (.cells #[.int .u8 x,.int .u8 y] 5)) .u8 (some ⟨w.heap.size,0,none⟩) 2 2 [x,y]∧Below w.heap.size w (w.alloc (.cells #[.int .u8 x,.int .u8 y] 5)) :=
 ⟨lit_textJ w w.heap.size (0,0) [x,y] 2 rfl rfl (by decide),(Below.refl _ _).alloc (Nat.le_refl _) _⟩
theorem d_str2551:(strOfNums [255,1]).toList=([255,1]:List UInt8):=by kernel_rfl
theorem act_two {w:World} {base c:Nat} {A:Option Addr} {T:Txt} (h:OwnActs w base A 2 c [(1,13,T),(2,0,[])]):∃ b q m d,A=some ⟨b,0,none⟩∧w.cell? ⟨b,0,none⟩=some (.int .u8 1)∧w.cell? ⟨b,1,none⟩=some (.int .i64 13)∧w.cell? ⟨b,2,none⟩=some (.slice q m d)∧w.cell? ⟨b,29,none⟩=some (.int .u8 2)∧Arg w .u8 q m d T:=by
 obtain ⟨L,h1,h2,_,h4⟩:=h
 obtain ⟨b,e,hlt,x0,x1,x2⟩:=h1.row (i:=0) (by decide)
 obtain ⟨b',e',_,y0,_,_⟩:=h1.row (i:=1) (by decide)
 obtain rfl:b'=b:=by rw [e] at e';injection e' with e';injection e' with e';exact e'.symm
 obtain ⟨k0,k1,k2⟩:=h4 0 (by decide)
 obtain ⟨j0,_,_⟩:=h4 1 (by decide)
 simp only [List.getD_cons_zero,List.getD_cons_succ] at k0 k1 k2 j0
 simp only [Nat.zero_mul,Nat.zero_add,Nat.one_mul,k0,k1,j0] at x0 x1 x2 y0
 exact ⟨_,_,_,_,e,x0,x1,x2,y0,k2.arg⟩
theorem dnames_of (DD:DiffDoes) (w:World):Calls Try.prog 3 #[] w fun e w'=>e=.returned (.bool true)∧Below w.heap.size w w':=by
 have B:=Lh (Below.refl w.heap.size w)
 have K1:=Lh (fun D c D1 c1 wx hx hy=>d_mark DD (p:=0) (t:=9) (a:=[2,1]) (b:=[0,1]) (E:=2) (o:=[]) (l:=[]) (n:=2) (n1:=2) (m:=0) (nl:=0) (few_bytes (by decide)) (few_bytes (by decide)) (by decide) (by decide) (by kernel_rfl) (by kernel_rfl) (by kernel_rfl) rfl rfl D c D1 c1 wx hx hy)
 have K2:=Lh (fun D c D1 c1 wx hx hy=>d_mark DD (p:=2) (t:=0) (a:=[2,1]) (b:=[0,1]) (E:=2) (o:=[]) (l:=[]) (n:=2) (n1:=2) (m:=0) (nl:=0) (few_bytes (by decide)) (few_bytes (by decide)) (by decide) (by decide) (by kernel_rfl) (by kernel_rfl) (by kernel_rfl) rfl rfl D c D1 c1 wx hx hy)
 have K3:=Lh (fun D c D1 c1 wx hx hy=>d_mark DD (p:=0) (t:=0) (a:=[2,2]) (b:=[0,1]) (E:=8) (o:=[]) (l:=[]) (n:=2) (n1:=2) (m:=0) (nl:=0) (few_bytes (by decide)) (few_bytes (by decide)) (by decide) (by decide) (by kernel_rfl) (by kernel_rfl) (by kernel_rfl) rfl rfl D c D1 c1 wx hx hy)
 have K4:=Lh (fun D c D1 c1 wx hx hy=>d_clean DD (p:=0) (a:=[2,1]) (b:=[0]) (E:=8) (o:=[]) (l:=[]) (n:=2) (n1:=1) (m:=0) (nl:=0) (few_bytes (by decide)) (few_bytes (by decide)) (by decide) (by decide) (by kernel_rfl) (by kernel_rfl) (by kernel_rfl) rfl rfl D c D1 c1 wx hx hy)
 have K5:=Lh (fun wx:World=>(show Calls Try.prog 10 #[cfgV 0 0 0 0 0 0,.int .i64 0,.slice none 0 0] wx (fun e w'=>∃ A c A' c',e=.returned (.tuple #[.slice A 0 c,.slice A' 0 c',.int .i64 8])∧w'.ownsRow wx.heap.size 5 1 (.slice A 0 c) 0 (ints .u8 [])∧OwnActs w' wx.heap.size A' 0 c' []∧Below wx.heap.size wx w') from by
  have r:=DD.fill 0 0 0 0 0 0 0 none 0 0 [] wx (Arg.nil wx .u8) (fun z hz=>absurd hz List.not_mem_nil) (by decide)
  unfold MkOut at r
  rw [show dfE 0 0 0 0 0 0 0 [] []=8 by kernel_rfl,show diB 0 0 0 0 0 0 0 []=[] by kernel_rfl,show actW (diP 0 0 0 0 0 0 0 [])=[] by kernel_rfl] at r
  exact r))
 have K6:=Lh (fun D c wx hx=>d_fill DD (p:=1) (a:=[255,0]) (E:=0) (o:=[255,1]) (l:=[(1,13,pgSec 1 1 1),(2,0,[])]) (n:=2) (m:=2) (nl:=2) (few_bytes (by decide)) (by decide) (by kernel_rfl) (by kernel_rfl) (by kernel_rfl) rfl rfl D c wx hx)
 have P7:=Lh (fun wx:World=>(show Calls Try.prog 11 #[cfgV 2 9 4 2 2 8,.int .i64 1,.int .i64 1,.int .u8 1] wx (fun e w'=>∃ A c,e=.returned (.tuple #[.agg #[.int .i64 13,.slice A 32 c],.int .i64 0])∧w'.ownsRow wx.heap.size 5 1 (.slice A 32 c) 32 (ints .u8 (pgSec 1 1 1))∧Below wx.heap.size wx w') from by
  have r:=pgplan_any 2 9 4 2 2 8 1 1 1 wx ⟨by decide,by decide⟩
  unfold PgnOut at r
  rw [d_p.1,d_p.2.1,d_p.2.2,pgSec_len] at r
  exact r))
 have AL:=Lh (fun wx:World=>alive_diff DD wx)
 clear DD
 go_enter Try.func3,Try.ntmps3
 go_wp2_with fail
 refine (two14_any _).mono ?_
 rintro e v1 ⟨rfl,hb⟩
 have B:=Lh (B.out.trans (hb.mono B.out.size))
 clear hb
 obtain ⟨la,lb,hk⟩:=two_lits v1 2 1 0 1
 obtain ⟨v2,hW⟩:∃ x:World,x=(v1.alloc (.cells #[.int .u8 2,.int .u8 1] 5)).alloc (.cells #[.int .u8 0,.int .u8 1] 5):=⟨_,rfl⟩
 rw [← hW] at la lb hk
 have B:=Lh (B.out.trans (hk.mono B.out.size))
 have LA:=Lh la
 have LB:=Lh lb
 clear la lb hk
 go_wp2_with fail
 rw [← hW]
 clear hW
 refine (K1.out _ _ _ _ _ LA.out LB.out).mono ?_
 rintro e v3 ⟨A1,r1,A1',r1',rfl,hown,hact,hb⟩
 have B:=Lh (B.out.trans (hb.mono B.out.size))
 clear hb hown hact LA LB
 go_wp2_with fail
 refine (two14_any _).mono ?_
 rintro e v4 ⟨rfl,hb⟩
 have B:=Lh (B.out.trans (hb.mono B.out.size))
 clear hb
 obtain ⟨la,lb,hk⟩:=two_lits v4 2 1 0 1
 obtain ⟨v5,hW⟩:∃ x:World,x=(v4.alloc (.cells #[.int .u8 2,.int .u8 1] 5)).alloc (.cells #[.int .u8 0,.int .u8 1] 5):=⟨_,rfl⟩
 rw [← hW] at la lb hk
 have B:=Lh (B.out.trans (hk.mono B.out.size))
 have LA:=Lh la
 have LB:=Lh lb
 clear la lb hk
 go_wp2_with fail
 rw [← hW]
 clear hW
 refine (K2.out _ _ _ _ _ LA.out LB.out).mono ?_
 rintro e v6 ⟨A2,r2,A2',r2',rfl,hown,hact,hb⟩
 have B:=Lh (B.out.trans (hb.mono B.out.size))
 clear hb hown hact LA LB
 go_wp2_with fail
 refine (two14_any _).mono ?_
 rintro e v7 ⟨rfl,hb⟩
 have B:=Lh (B.out.trans (hb.mono B.out.size))
 clear hb
 obtain ⟨la,lb,hk⟩:=two_lits v7 2 2 0 1
 obtain ⟨v8,hW⟩:∃ x:World,x=(v7.alloc (.cells #[.int .u8 2,.int .u8 2] 5)).alloc (.cells #[.int .u8 0,.int .u8 1] 5):=⟨_,rfl⟩
 rw [← hW] at la lb hk
 have B:=Lh (B.out.trans (hk.mono B.out.size))
 have LA:=Lh la
 have LB:=Lh lb
 clear la lb hk
 go_wp2_with fail
 rw [← hW]
 clear hW
 refine (K3.out _ _ _ _ _ LA.out LB.out).mono ?_
 rintro e v9 ⟨A3,r3,A3',r3',rfl,hown,hact,hb⟩
 have B:=Lh (B.out.trans (hb.mono B.out.size))
 clear hb hown hact LA LB
 go_wp2_with fail
 refine (two14_any _).mono ?_
 rintro e v10 ⟨rfl,hb⟩
 have B:=Lh (B.out.trans (hb.mono B.out.size))
 clear hb
 obtain ⟨la,lb,hk⟩:=two_lits1 v10 2 1 0
 obtain ⟨v11,hW⟩:∃ x:World,x=(v10.alloc (.cells #[.int .u8 2,.int .u8 1] 5)).alloc (.cells #[.int .u8 0] 5):=⟨_,rfl⟩
 rw [← hW] at la lb hk
 have B:=Lh (B.out.trans (hk.mono B.out.size))
 have LA:=Lh la
 have LB:=Lh lb
 clear la lb hk
 go_wp2_with fail
 rw [← hW]
 clear hW
 refine (K4.out _ _ _ _ _ LA.out LB.out).mono ?_
 rintro e v12 ⟨A4,r4,A4',r4',rfl,hown,hact,hb⟩
 have B:=Lh (B.out.trans (hb.mono B.out.size))
 clear hb hown hact LA LB
 go_wp2_with fail
 refine (K5.out _).mono ?_
 rintro e v13 ⟨A5,r5,A5',r5',rfl,hown,hact,hb⟩
 have B:=Lh (B.out.trans (hb.mono B.out.size))
 clear hb hown hact
 go_wp2_with fail
 refine (two14_any _).mono ?_
 rintro e v14 ⟨rfl,hb⟩
 have B:=Lh (B.out.trans (hb.mono B.out.size))
 clear hb
 obtain ⟨la,hk⟩:=one_lit v14 255 0
 obtain ⟨v15,hW⟩:∃ x:World,x=v14.alloc (.cells #[.int .u8 255,.int .u8 0] 5):=⟨_,rfl⟩
 rw [← hW] at la hk
 have B:=Lh (B.out.trans (hk.mono B.out.size))
 have LA:=Lh la
 clear la hk
 go_wp2_with fail
 rw [← hW]
 clear hW
 refine (K6.out _ _ _ LA.out).mono ?_
 rintro e v16 ⟨A6,r6,A6',r6',rfl,hown,hact,hb⟩
 have B:=Lh (B.out.trans (hb.mono B.out.size))
 have V6:=Lh (Arg.own hown)
 have C6:=Lh (hact)
 clear hb hown hact LA
 go_wp2_with fail
 refine (two14_any _).mono ?_
 rintro e v17 ⟨rfl,hb⟩
 have B:=Lh (B.out.trans (hb.mono B.out.size))
 have V6:=Lh (V6.out.below hb)
 have C6:=Lh (C6.out.below hb)
 clear hb
 go_wp2_with fail
 refine (P7.out _).mono ?_
 rintro e v18 ⟨A19,r19,rfl,hown,hb⟩
 have hY:=Blk.new v18 33 [.int .i64 13,.slice A19 32 r19]
 have hbk:Below v18.heap.size v18 (v18.alloc (.cells #[.int .i64 13,.slice A19 32 r19] 33)):=(Below.refl _ _).alloc (Nat.le_refl _) _
 have hb:=hb.trans (hbk.mono hb.size)
 have B:=Lh (B.out.trans (hb.mono B.out.size))
 have V6:=Lh (V6.out.below hb)
 have C6:=Lh (C6.out.below hb)
 have V19:=Lh ((Arg.own hown).below hbk)
 clear hb hbk hown
 go_upto_region 8 with fail
 obtain ⟨G18,hG⟩:∃ x,x=v18.heap.size:=⟨_,rfl⟩
 rw [← hG] at hY ⊢
 obtain ⟨v19,hW⟩:∃ x:World,x=v18.alloc (.cells #[.int .i64 13,.slice A19 32 r19] 33):=⟨_,rfl⟩
 rw [← hW] at hY B V6 C6 V19 ⊢
 clear hW hG
 have Y19:=Lh hY
 clear hY
 obtain ⟨T,hT⟩:∃ T:Txt,T=pgSec 1 1 1:=⟨_,rfl⟩
 rw [← hT] at V19 C6
 clear hT K1 K2 K3 K4 K5 K6 P7
 obtain ⟨b6,Q6,n6,d6,rfl,z0,z1,z2,z3,zq⟩:=act_two C6.out
 have y0:=Y19.out.cell 0
 have y1:=Y19.out.cell 1
 simp only [gcZ,gcS] at y0 y1
 have keepX:∀ w',Below v19.heap.size v19 w'→w'.cell? ⟨b6,0,none⟩=some (.int .u8 1)∧w'.cell? ⟨b6,1,none⟩=some (.int .i64 13)∧w'.cell? ⟨b6,2,none⟩=some (.slice Q6 n6 d6)∧w'.cell? ⟨b6,29,none⟩=some (.int .u8 2)∧w'.cell? ⟨G18,0,none⟩=some (.int .i64 13)∧w'.cell? ⟨G18,1,none⟩=some (.slice A19 32 r19)∧(convert 22 9 (.slice A6 2 r6)).run Try.prog w'=.ok (.string (strOfNums [255,1])) w'∧(convert 22 9 (.slice Q6 n6 d6)).run Try.prog w'=.ok (.string (strOfNums T)) w'∧(convert 22 9 (.slice A19 32 r19)).run Try.prog w'=.ok (.string (strOfNums T)) w':=fun w' hx=>⟨cell_later hx z0,cell_later hx z1,cell_later hx z2,cell_later hx z3,cell_later hx y0,cell_later hx y1,str_arg (V6.out.below hx),str_arg (zq.below hx),str_arg (V19.out.below hx)⟩
 clear z0 z1 z2 z3 zq y0 y1 C6 V6 V19 Y19
 have hs1:=d_str2551
 have hs2:((strOfNums T).toList == (strOfNums T).toList)=true:=by simp
 have hcur:Below v19.heap.size v19 v19.drew:=below_drewN (Below.refl _ _) 1
 have hkX:=keepX _ hcur
 simp only [List.append]
 go_region_held3 (fun w'=>w'.cell? ⟨b6,0,none⟩=some (.int .u8 1)∧w'.cell? ⟨b6,1,none⟩=some (.int .i64 13)∧w'.cell? ⟨b6,2,none⟩=some (.slice Q6 n6 d6)∧w'.cell? ⟨b6,29,none⟩=some (.int .u8 2)∧w'.cell? ⟨G18,0,none⟩=some (.int .i64 13)∧w'.cell? ⟨G18,1,none⟩=some (.slice A19 32 r19)∧(convert 22 9 (.slice A6 2 r6)).run Try.prog w'=.ok (.string (strOfNums [255,1])) w'∧(convert 22 9 (.slice Q6 n6 d6)).run Try.prog w'=.ok (.string (strOfNums T)) w'∧(convert 22 9 (.slice A19 32 r19)).run Try.prog w'=.ok (.string (strOfNums T)) w')
  (first | exact hkX | go_keep)
  (first
   | (go_at_call 12;(with_reducible refine (AL.out _).mono ?_);rintro e wT ⟨rfl,hbT⟩;have hcur:=hcur.trans (hbT.mono hcur.size);have hkX:=keepX _ hcur))
 have B:=Lh (B.out.trans (hcur.mono B.out.size))
 clear hcur keepX hkX
 go_wp2
 go_ret
 exact ⟨rfl,B.out⟩
end Go.Proofs.Ytdbeiikaeccbhaa
