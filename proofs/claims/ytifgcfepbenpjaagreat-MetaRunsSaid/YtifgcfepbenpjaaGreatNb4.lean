/- Texts of layers 1 to 12, joined. -/
import Derived.Test.YtifgcfepbenpjaaGreatNb2
import Derived.Lib.Bytes
import Derived.WalkMore
import Derived.ScopeJumps
import Derived.StillTailTactics
import Derived.BigQuiet
import Derived.Lib.QuoteBits
import Derived.Deep.Cut
set_option maxRecDepth 100000
set_option maxHeartbeats 12800000
set_option linter.unusedVariables false
namespace Go.Proofs.YtifgcfepbenpjaaGreat
open Go.RowKit
def BytesOut (w:World) (b:Txt) (E:Int) (e:Ending) (w':World):Prop :=
 ∃ A c,e=.returned (.tuple #[.slice A b.length c,.int .i64 E])∧w'.ownsRow w.heap.size 5 1 (.slice A b.length c) b.length (ints .u8 b)∧Below w.heap.size w w'
theorem pend_hit {C:List Pnd} {at_:Int} {k:Nat} (hk:k < C.length) (h:(C.getD k (0,[])).1=at_):pendB C at_=true:=by
 unfold pendB
 rw [List.any_eq_true]
 rw [gtD,geE hk,Option.getD_some] at h
 exact ⟨C[k],List.getElem_mem hk,by rw [h];simp⟩
theorem pend_none {C:List Pnd} {at_:Int} (h:∀ y,y < C.length→(C.getD y (0,[])).1≠at_):pendB C at_=false:=by
 unfold pendB
 rw [List.any_eq_false]
 intro p hp
 obtain ⟨k,hk,rfl⟩:=List.getElem_of_mem hp
 have:=h k hk
 rw [gtD,geE hk,Option.getD_some] at this
 simpa using this
theorem lastW_none {C:List Pnd} {at_:Int} (h:∀ y,y < C.length→(C.getD y (0,[])).1≠at_):lastW C at_=none:=by
 unfold lastW
 rw [show C.reverse.find? (fun p=>decide (p.1=at_))=none from ?_]
 ·rfl
 ·rw [List.find?_eq_none]
  intro p hp
  obtain ⟨k,hk,rfl⟩:=List.getElem_of_mem (List.mem_reverse.1 hp)
  have:=h k hk
  rw [gtD,geE hk,Option.getD_some] at this
  simpa using this
theorem ask_zero {S:List Sec} {C:List Pnd} {at_:Int} (h:askE S C at_=0):mayD S C=true∧∃ a:Nat,at_=a∧a < S.length:=by
 unfold askE at h
 cases hR:mayD S C with
 | false=>rw [hR] at h;simp at h
 | true =>
  rw [hR] at h
  simp only [if_true] at h
  by_cases hx:at_ < 0∨(S.length:Int)≤at_
  ·rw [if_pos hx] at h;omega
  ·exact ⟨rfl,at_.toNat,by omega,by omega⟩
def DiskOut (w:World) (S:List Sec) (C:List Pnd) (E:Int) (e:Ending) (w':World):Prop :=
 ∃ A c A' c',e=.returned (.tuple #[diskV A S.length c A' C.length c',.int .i64 E])∧OwnDsk w' w.heap.size A S.length c A' C.length c' S C∧Below w.heap.size w w'
theorem byFate_len (S:List Sec) (p:Pnd) (f:Int):(byFate S p f).length=S.length:=by unfold byFate;split <;> (try split) <;> simp
theorem behindK_len (S:List Sec) (C:List Pnd) (F:List Int) (k:Nat):(behindK S C F k).length=S.length:=by
 induction k with
 | zero=>rfl
 | succ k ih=>unfold behindK;rw [byFate_len,ih]
theorem make_bytes (n:Nat) (hn:n≤1000) (w:World) :
  (Instr.makeSlice 42 (.int .i64 (n:Int)) (.int .i64 (n:Int))).run Tryz.prog w=.ok (.slice (some ⟨w.heap.size,0,none⟩) n n) (w.alloc (.cells (List.replicate n (.int .u8 0)).toArray 5)):=by
 obtain ⟨i0,hi0,hz0,hz1,hz2⟩:=info_parts byte_info
 have hml:(1000:Nat)≤maxLen:=by decide
 exact run_make1 (P:=Tryz.prog) 42 5 i0 _ Tryz.underlying42 hi0 hz0 hz1 rfl n (by rw [hz2];omega) (by omega) w
theorem noughts_ints:List.replicate 32 (Value.int .u8 0)=ints .u8 noughts:=by unfold noughts ints;rw [List.map_replicate]
end Go.Proofs.YtifgcfepbenpjaaGreat
