/- Layer 5, package disk: what stands between two rounds of Twin's loops. -/
import Derived.Test.YtkbeeknnfndjgaaDskT
namespace Go.Proofs.Ytkbeeknnfndjgaa
open Go.RowKit
set_option linter.unusedVariables false

/-- What stands between two rounds. -/
structure TwS (w wr : World) (B : Option Addr) (n d : Nat) (B' : Option Addr) (n' d' : Nat) (S : List Sec) (C : List Pnd) (M m cm : Nat) (mem : List Int) (ks kp : Nat) : Prop where
  secs : SecsTo w wr w.heap.size M m B n d S ks
  pnds : PndsTo w wr w.heap.size M m B' n' d' C kp
  box : Blk wr w.heap.size 25 [.slice B n d, .slice B' n' d']
  res : Blk wr (w.heap.size + 1) 25 [.slice none 0 0, .slice none 0 0]
  store : Blk wr (w.heap.size + 3) 98 [.slice (some ⟨M, 0, none⟩) m cm]
  mem : wr.ownsRow w.heap.size 5 1 (.slice (some ⟨M, 0, none⟩) m cm) m (ints .u8 mem)
  below : Below w.heap.size w wr
section
variable {w wr w2 : World} {B : Option Addr} {n d : Nat} {B' : Option Addr} {n' d' : Nat} {S : List Sec} {C : List Pnd} {M m cm : Nat} {mem : List Int} {ks kp : Nat}
theorem TwS.on (h : TwS w wr B n d B' n' d' S C M m cm mem ks kp) (hb : Below wr.heap.size wr w2) : TwS w w2 B n d B' n' d' S C M m cm mem ks kp :=
  ⟨h.secs.below hb, h.pnds.below hb, h.box.below hb h.box.lt, h.res.below hb h.res.lt, h.store.below hb h.store.lt, owns_below h.mem hb, h.below.trans (hb.mono h.below.size)⟩
theorem TwS.kept (h : TwS w wr B n d B' n' d' S C M m cm mem ks kp) {kk : Nat} {b : List Int} {A2 : Option Addr} {M' cm' : Nat} (hk : Kept wr w.heap.size (w.heap.size + 3) M m mem kk b A2 M' cm' w2) : TwS w w2 B n d B' n' d' S C M' (m + kk) cm' (mem ++ b) ks kp := by
  have hu := U8.of_owns h.mem
  have hM1 : w.heap.size ≠ M := fun e => by subst e; exact u8_blk (by decide) hu h.box
  have hM2 : w.heap.size + 1 ≠ M := fun e => by subst e; exact u8_blk (by decide) hu h.res
  exact ⟨h.secs.kept hk h.store hu, h.pnds.kept hk h.store hu, (hk.same _ h.box.lt (by omega) hM1).trans h.box, (hk.same _ h.res.lt (by omega) hM2).trans h.res, hk.box, hk.own, h.below.trans hk.below⟩
theorem TwS.put_sec (h : TwS w wr B n d B' n' d' S C M m cm mem ks kp) {g : Nat} (hB : B = some ⟨g, 0, none⟩) (hkn : ks < n) {A2 : Option Addr} {n2 c2 : Nat} (ht : TxtIn wr w.heap.size M m A2 n2 c2 (S.getD ks (false, [])).2) : TwS w (wr.setCell ⟨g, ks * 2, none⟩ (.slice A2 n2 c2)) B n d B' n' d' S C M m cm mem (ks + 1) kp := by
  obtain ⟨g', Ai, ni, ci, e, hbg, _, _, _, cs, hcs⟩ := h.secs.get hkn
  rw [hB] at e
  cases e
  have hne : ∀ {k : Nat} {t : TypeId} {c : List Value}, t ≠ 39 → Blk wr k t c → k ≠ g := fun ht hb e => by
    subst e
    unfold Blk at hb
    rw [hb] at hcs
    simp at hcs
    exact ht hcs.2
  have hoth : ∀ (g' : Nat) (e : TypeId) (c : Array Value), e ≠ 39 → wr.heap[g']? = some (.cells c e (0, 0)) → (wr.setCell ⟨g, ks * 2, none⟩ (.slice A2 n2 c2)).heap[g']? = wr.heap[g']? := fun g' e c he hc => Below.heap_setCell wr _ _ g' (fun e2 => by
    have e3 : g' = g := e2
    subst e3
    rw [hcs] at hc
    simp at hc
    exact he hc.2.symm)
  have hput := (hB ▸ h.secs).put hkn ht
  refine ⟨?_, ?_, h.box.away (hne (by decide) h.box) _ _, h.res.away (hne (by decide) h.res) _ _, h.store.away (hne (by decide) h.store) _ _, owns_keep h.mem (fun g' c _ hc => hoth g' _ c (by decide) hc), h.below.setCell (p := ⟨g, _, none⟩) hbg _⟩
  · subst hB; exact hput
  · exact h.pnds.keep fun g' e c he _ hc => hoth g' e c (by rcases he with rfl | rfl <;> decide) hc
theorem TwS.put_pnd (h : TwS w wr B n d B' n' d' S C M m cm mem ks kp) {g : Nat} (hB : B' = some ⟨g, 0, none⟩) (hkn : kp < n') {A2 : Option Addr} {n2 c2 : Nat} (ht : TxtIn wr w.heap.size M m A2 n2 c2 (C.getD kp (0, [])).2) : TwS w (wr.setCell ⟨g, kp * 2 + 1, none⟩ (.slice A2 n2 c2)) B n d B' n' d' S C M m cm mem ks (kp + 1) := by
  obtain ⟨g', Ai, ni, ci, e, hbg, _, _, _, cs, hcs⟩ := h.pnds.get hkn
  rw [hB] at e
  cases e
  have hne : ∀ {k : Nat} {t : TypeId} {c : List Value}, t ≠ 63 → Blk wr k t c → k ≠ g := fun ht hb e => by
    subst e
    unfold Blk at hb
    rw [hb] at hcs
    simp at hcs
    exact ht hcs.2
  have hoth : ∀ (g' : Nat) (e : TypeId) (c : Array Value), e ≠ 63 → wr.heap[g']? = some (.cells c e (0, 0)) → (wr.setCell ⟨g, kp * 2 + 1, none⟩ (.slice A2 n2 c2)).heap[g']? = wr.heap[g']? := fun g' e c he hc => Below.heap_setCell wr _ _ g' (fun e2 => by
    have e3 : g' = g := e2
    subst e3
    rw [hcs] at hc
    simp at hc
    exact he hc.2.symm)
  have hput := (hB ▸ h.pnds).put hkn ht
  refine ⟨?_, ?_, h.box.away (hne (by decide) h.box) _ _, h.res.away (hne (by decide) h.res) _ _, h.store.away (hne (by decide) h.store) _ _, owns_keep h.mem (fun g' c _ hc => hoth g' _ c (by decide) hc), h.below.setCell (p := ⟨g, _, none⟩) hbg _⟩
  · exact h.secs.keep fun g' e c he _ hc => hoth g' e c (by rcases he with rfl | rfl <;> decide) hc
  · subst hB; exact hput
end

end Go.Proofs.Ytkbeeknnfndjgaa
