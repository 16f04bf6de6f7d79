/- Texts of layers 1 to 12, joined. -/
import Derived.Test.YtifgcfepbenpjaaGreatNb38
set_option maxRecDepth 100000
set_option maxHeartbeats 12800000
set_option linter.unusedVariables false
namespace Go.Proofs.YtifgcfepbenpjaaGreat
open Go.RowKit
def plP (S:List Sec) (C:List Pnd) (s:Sup):List Pnd:=writesP (0 + hF 1 (optsOf S C 0 (2 * 1)) * 1) (textsOf (countTo (optsOf S C 0 (2 * 1)) (2 * 1) + 1) (suT s) 1) 1
theorem plP_is {P T A M W Q:Int} {S:List Sec} {C:List Pnd} {s:Sup} (h:spE P T A M W Q S C s=0):spL P T A M W Q S C s=plP S C s:=by
 have e:spL P T A M W Q S C s=cpL S C 0 1 (suT s):=if_pos h
 rw [e]
 obtain ⟨_,_,hp⟩:=spE_zero h
 unfold cpL
 rw [if_pos hp]
 rfl
theorem plP_len (S:List Sec) (C:List Pnd) (s:Sup):(plP S C s).length=1:=by unfold plP writesP;rw [someP_len]
theorem grown_six (w:World) (G:Nat) (v a g n u:Int) (B:Option Addr) (k c:Nat):w.grownBy ((((((w.setCell ⟨G,0,none⟩ (.int .u32 v)).setCell ⟨G,1,none⟩ (.int .i64 a)).setCell ⟨G,2,none⟩ (.int .u64 g)).setCell ⟨G,3,none⟩ (.int .i64 n)).setCell ⟨G,4,none⟩ (.int .i64 u)).setCell ⟨G,5,none⟩ (.slice B k c)) (some G) :=
 (((((grownBy_set w G 0 _).trans (grownBy_set _ G 1 _)).trans (grownBy_set _ G 2 _)).trans (grownBy_set _ G 3 _)).trans (grownBy_set _ G 4 _)).trans (grownBy_set _ G 5 _)
theorem Arg.offM {w w':World} {G:Nat} {v a g n u:Int} {B:Option Addr} {k c:Nat} (hG:Blk w G 32 (metL v a g n u B k c)) (hg:w.grownBy w' (some G)) {A:Option Addr} {m d:Nat} {zs:List Int} (h:Arg w .u8 A m d zs):Arg w' .u8 A m d zs:=by
 refine ⟨fun j x hx=>?_,h.len,h.cap,h.max⟩
 obtain ⟨b,o,e,hlt,hc⟩:=h.seq j x hx
 have hx2:∃ z,x=.int .u8 z:=by
  unfold ints at hx
  rw [List.getElem?_map] at hx
  obtain ⟨z,_,hz⟩:=Option.map_eq_some_iff.1 hx
  exact ⟨z,hz.symm⟩
 obtain ⟨z,rfl⟩:=hx2
 have hne:b≠G:=fun e=>by
  subst e
  rw [hG.cell] at hc
  have:=List.mem_of_getElem? hc
  simp at this
 have hb:=hg.block b hlt (by simpa using hne)
 refine ⟨b,o,e,Nat.lt_of_lt_of_le hlt hg.size,?_⟩
 rw [← hc]
 simp only [World.cell?,hb]
end Go.Proofs.YtifgcfepbenpjaaGreat
