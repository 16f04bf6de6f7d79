/- Texts of layers 1 to 12, joined. -/
import Derived.Test.YtifgcfepbenpjaaGreatNa38
set_option maxRecDepth 100000
set_option maxHeartbeats 12800000
set_option linter.unusedVariables false
namespace Go.Proofs.YtifgcfepbenpjaaGreat
open Go.RowKit
def plP (S:List Sec) (C:List Pnd) (s:Sup):List Pnd:=writesP (0 + hF 1 (optsOf S C 0 (2 * 1)) * 1) (textsOf (countTo (optsOf S C 0 (2 * 1)) (2 * 1) + 1) (suT s) 1) 1
theorem plP_is {P T A M W Q:Int} {S:List Sec} {C:List Pnd} {s:Sup} (h:spE P T A M W Q S C s=0):spL P T A M W Q S C s=plP S C s:=by
 have e:spL P T A M W Q S C s=cpL S C 0 1 (suT s):=if_pos h
 rw [e]
 obtain ⟨_,_,hp⟩:=spE_zero h
 unfold cpL
 rw [if_pos hp]
 rfl
theorem plP_len (S:List Sec) (C:List Pnd) (s:Sup):(plP S C s).length=1:=by unfold plP writesP;rw [someP_len]
theorem rplanned9_own (P T A M W Q:Int) (D:Option Addr) (nd d:Nat) (D':Option Addr) (nd' d':Nat) (S:List Sec) (C:List Pnd) (v a g:Int) (w:World) (hq:Dsk w D nd d D' nd' d' S C) (hs:SmallD S C) (hm:mayT P T A M W Q S C) (hi:isS (v,a,g)) (ha:arS a) :
  Calls Tryz.prog 94 #[diskV D nd d D' nd' d',supV v a g] w fun e w'=>∃ A' c',e=.returned (.slice A' 1 c')∧OwnPnds w' w.heap.size A' 1 c' (plP S C (v,a,g))∧Below w.heap.size w w':=by
 have hb0:Below w.heap.size w (w.alloc (.cells #[.slice D nd d,.slice D' nd' d'] 25)):=(Below.refl _ _).alloc (Nat.le_refl _) _
 obtain ⟨y,hk⟩:=sup_box (w.alloc (.cells #[.slice D nd d,.slice D' nd' d'] 25)) v a g
 rw [World.size_alloc] at y
 have x:=(DBox.new hq).below hk
 obtain ⟨w0,hw0⟩:∃ x:World,x=((w.alloc (.cells #[.slice D nd d,.slice D' nd' d'] 25)).alloc (.cells #[.int .u32 v,.int .i64 a,.int .u64 g] 29)):=⟨_,rfl⟩
 rw [← hw0] at x y hk
 have X:=Lh x
 have Y:=Lh y
 have BB:=Lh (hb0.trans (hk.mono hb0.size))
 have hN:0 + 2 * 1≤nd:=by
  have h1:=(cellE_zero (cell_zero hm)).2
  obtain ⟨a0,m0,e1,e2,_,_,h3⟩:=h1
  have:=hq.secs.len
  omega
 have RW:=Lh (fun wx:World=>rrow9_any v a g hi ha wx)
 have PL:=Lh (fun A0 c0 wx hx hy hsp=>rplanned_own D nd d D' nd' d' S C 0 1 A0 13 c0 (suT (v,a,g)) wx hx hs hm.2.1 (by omega) (by omega) hN hy (suT_byte _) (by decide) hsp)
 obtain ⟨L,hL⟩:∃ L,L=plP S C (v,a,g):=⟨_,rfl⟩
 have e:writesP (((0:Nat):Int) + hF 1 (optsOf S C ((0:Nat):Int) (2 * 1)) * ((1:Nat):Int)) (textsOf (countTo (optsOf S C ((0:Nat):Int) (2 * 1)) (2 * 1) + 1) (suT (v,a,g)) 1) 1=L:=hL.symm
 rw [e,show ((0:Nat):Int)=0 from rfl,show ((1:Nat):Int)=1 from rfl] at PL
 rw [← hL]
 obtain ⟨d0,d1⟩:=x.cells
 obtain ⟨q0,q1,q2⟩:=y.tri
 clear hq hs hm hi ha x y hk hb0 hL e hN
 go_enter Tryz.func94,Tryz.ntmps94
 go_upto_region 1 with fail
 rw [← hw0]
 clear hw0
 have hcur:Below w0.heap.size w0 w0.drew:=below_drewN (Below.refl _ _) 1
 have keepX:∀ wx,Below w0.heap.size w0 wx→wx.cell? ⟨w.heap.size,0,none⟩=some (.slice D nd d)∧wx.cell? ⟨w.heap.size,1,none⟩=some (.slice D' nd' d')∧wx.cell? ⟨w.heap.size + 1,0,none⟩=some (.int .u32 v)∧wx.cell? ⟨w.heap.size + 1,1,none⟩=some (.int .i64 a)∧wx.cell? ⟨w.heap.size + 1,2,none⟩=some (.int .u64 g):=fun wx hx=>by
  obtain ⟨d0,d1⟩:=(X.out.below hx).cells
  obtain ⟨q0,q1,q2⟩:=(Y.out.below hx Y.out.lt).tri
  exact ⟨d0,d1,q0,q1,q2⟩
 have hkX:=keepX _ hcur
 go_region_held3 (fun w'=>w'.cell? ⟨w.heap.size,0,none⟩=some (.slice D nd d)∧w'.cell? ⟨w.heap.size,1,none⟩=some (.slice D' nd' d')∧w'.cell? ⟨w.heap.size + 1,0,none⟩=some (.int .u32 v)∧w'.cell? ⟨w.heap.size + 1,1,none⟩=some (.int .i64 a)∧w'.cell? ⟨w.heap.size + 1,2,none⟩=some (.int .u64 g))
  (first | exact hkX | go_keep)
  (first
   | (go_at_call 96;with_reducible refine (RW.out _).mono ?_;rintro e w3 ⟨AR,cR,rfl,hown,hb⟩;have hcur:=hcur.trans (hb.mono hcur.size);have hkX:=keepX _ hcur)
   | (go_at_call 139;have hM:=hcur.size;with_reducible refine (PL.out AR cR _ (X.out.below hcur).dsk (Arg.own hown) (fun a ha=>by obtain ⟨g,e,_⟩:=owns_int_at (j:=0) hown (by decide);rw [e] at ha;injection ha with ha;subst ha;exact .inl rfl)).mono ?_;rintro e w4 ⟨AL,cL,rfl,hownL,hb⟩;have hcur:=hcur.trans (hb.mono hcur.size);have hkX:=keepX _ hcur))
 have OL:=Lh (hownL.lower (Nat.le_trans BB.out.size hM))
 have BB:=Lh (BB.out.trans (hcur.mono BB.out.size))
 clear hcur hkX keepX hown hownL hb hM RW PL d0 d1 q0 q1 q2
 go_wp2
 go_ret
 exact ⟨AL,cL,rfl,OL.out,BB.out⟩
theorem grown_six (w:World) (G:Nat) (v a g n u:Int) (B:Option Addr) (k c:Nat):w.grownBy ((((((w.setCell ⟨G,0,none⟩ (.int .u32 v)).setCell ⟨G,1,none⟩ (.int .i64 a)).setCell ⟨G,2,none⟩ (.int .u64 g)).setCell ⟨G,3,none⟩ (.int .i64 n)).setCell ⟨G,4,none⟩ (.int .i64 u)).setCell ⟨G,5,none⟩ (.slice B k c)) (some G) :=
 (((((grownBy_set w G 0 _).trans (grownBy_set _ G 1 _)).trans (grownBy_set _ G 2 _)).trans (grownBy_set _ G 3 _)).trans (grownBy_set _ G 4 _)).trans (grownBy_set _ G 5 _)
theorem Arg.offM {w w':World} {G:Nat} {v a g n u:Int} {B:Option Addr} {k c:Nat} (hG:Blk w G 32 (metL v a g n u B k c)) (hg:w.grownBy w' (some G)) {A:Option Addr} {m d:Nat} {zs:List Int} (h:Arg w .u8 A m d zs):Arg w' .u8 A m d zs:=by
 refine ⟨fun j x hx=>?_,h.len,h.cap,h.max⟩
 obtain ⟨b,o,e,hlt,hc⟩:=h.seq j x hx
 have hx2:∃ z,x=.int .u8 z:=by
  unfold ints at hx
  rw [List.getElem?_map] at hx
  obtain ⟨z,_,hz⟩:=Option.map_eq_some_iff.1 hx
  exact ⟨z,hz.symm⟩
 obtain ⟨z,rfl⟩:=hx2
 have hne:b≠G:=fun e=>by
  subst e
  rw [hG.cell] at hc
  have:=List.mem_of_getElem? hc
  simp at this
 have hb:=hg.block b hlt (by simpa using hne)
 refine ⟨b,o,e,Nat.lt_of_lt_of_le hlt hg.size,?_⟩
 rw [← hc]
 simp only [World.cell?,hb]
def NoteOut (w:World) (m:Mt) (l:List Ac) (e:Ending) (w':World):Prop:=∃ A' c' A2 c2 L,e=.returned (.tuple #[metV m.s.1 m.s.2.1 m.s.2.2 m.n m.u A' m.t.length c',.slice A2 l.length c2])∧OwnRecs w' w.heap.size A' m.t.length c' m.t∧OwnAcs w' w.heap.size A2 l.length c2 L∧AxIs w' L l∧Below w.heap.size w w'
end Go.Proofs.YtifgcfepbenpjaaGreat
