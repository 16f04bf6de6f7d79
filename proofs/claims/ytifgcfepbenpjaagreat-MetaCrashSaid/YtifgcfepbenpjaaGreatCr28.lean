/- Texts of layers 1 to 12, joined. -/
import Derived.Test.YtifgcfepbenpjaaGreatCr22
import Derived.Test.YtifgcfepbenpjaaGreatCr27
import Derived.Deep.RegionHeld3
set_option maxRecDepth 100000
set_option maxHeartbeats 12800000
set_option linter.unusedVariables false
namespace Go.Proofs.YtifgcfepbenpjaaGreat
open Go.RowKit
def PutOut (w : World) (x : Option (List Rc)) (e : Ending) (w' : World) : Prop := ∃ A' c', e = .returned (.tuple #[.slice A' (ansL x).length c', .int .i64 (ansE x)]) ∧ OwnRecs w' w.heap.size A' (ansL x).length c' (ansL x) ∧ Below w.heap.size w w'
def NotesOut (w : World) (x : List Txt) (E : Int) (e : Ending) (w' : World) : Prop := ∃ A' c', e = .returned (.tuple #[.slice A' x.length c', .int .i64 E]) ∧ OwnTexts w' w.heap.size A' x.length c' x ∧ Below w.heap.size w w'
theorem noteO_byte {S : List Sec} {C : List Pnd} (hS : ∀ s ∈ S, ∀ z ∈ s.2, isByte z) (hC : ∀ p ∈ C, ∀ z ∈ p.2, isByte z) (g j x : Int) : ∀ z ∈ noteO g j (optAt S C x), isByte z := by
 unfold optAt
 by_cases h : rdE S C x = 0
 ·rw [if_pos h]
  exact noteT_byte g j (rd_good h hS hC).2
 ·rw [if_neg h]
  intro z hz
  cases hz
def ScanOut (w : World) (L : List Txt) (E : Int) (e : Ending) (w' : World) : Prop :=
 ∃ A c, e = .returned (.tuple #[.slice A L.length c, .int .i64 E]) ∧ OwnTxs w' w.heap.size A L.length c L ∧ Below w.heap.size w w'
section
variable {w w' : World} {G : Nat} {P T A M W Q : Int} {D D' : Option Addr} {n c n' c' : Nat} {S : List Sec} {C : List Pnd}
end
def TxtOut (w : World) (L : Txt) (E : Int) (e : Ending) (w' : World) : Prop :=
 ∃ A c, e = .returned (.tuple #[.slice A L.length c, .int .i64 E]) ∧ OwnTxt w' w.heap.size A L.length c L ∧ Below w.heap.size w w'
def PndOut (w : World) (x : Int) (L : Txt) (E : Int) (e : Ending) (w' : World) : Prop :=
 ∃ A c, e = .returned (.tuple #[.agg #[.int .i64 x, .slice A L.length c], .int .i64 E]) ∧ OwnTxt w' w.heap.size A L.length c L ∧ Below w.heap.size w w'
section
variable {w w' : World} {G : Nat} {P T A M W Q : Int} {D D' : Option Addr} {n c n' c' : Nat} {S : List Sec} {C : List Pnd}
end
theorem OwnTxt.few {w : World} {base n c c' : Nat} {A : Option Addr} {zs : List Int} (h : OwnTxt w base A n c zs) (h1 : n ≤ c') (h2 : c' ≤ c) : OwnTxt w base A n c' zs := ⟨h.1, h1, Nat.le_trans h2 h.2.2.1, h.2.2.2⟩
theorem jtext_any (g n : Int) (A : Option Addr) (k c : Nat) (b : Txt) (w : World) (hg : isG g) (hb : Arg w .u8 A k c b) :
  Calls Tryz.prog 154 #[.int .u64 g, .int .i64 n, .slice A k c] w (TxtOut w (jtB g n b) (jtE n b)) := by
 unfold TxtOut
 have hlen := hb.len
 by_cases h0 : jtE n b = 0
 ·have hB : jtB g n b = jT g n b := if_pos h0
  have hr : (1 ≤ b.length ∧ b.length ≤ 20) ∧ 0 ≤ n ∧ n ≤ 255 := by
   unfold jtE at h0
   split at h0
   ·split at h0
    ·exact ⟨by assumption, by assumption⟩
    ·cases h0
   ·cases h0
  rw [hlen] at hr
  rw [h0, hB, jT_length g n (by omega)]
  have NO := Lh (noteof_yes g n A k c w hr.1.1 hr.1.2 hr.2)
  have MN := method_note g n A k c
  have TX := Lh (ntext_any g n hg hr.2 A k c b w hb hr.1.2)
  clear h0 hB hr hlen hb
  go_enter Tryz.func154, Tryz.ntmps154
  go_wp2_with fail
  refine NO.out.mono ?_
  rintro e w1 ⟨rfl, rfl⟩
  clear NO
  go_wp2_with fail
  refine TX.out.mono ?_
  rintro e w2 ⟨G, rfl, hown, hb⟩
  have OW := Lh (OwnTxt.of hown)
  have B := Lh hb
  clear hown hb TX MN
  go_wp2
  go_ret2
  exact ⟨_, _, rfl, OW.out, B.out⟩
 ·have hB : jtB g n b = [] := if_neg h0
  rw [hB]
  have NO := Lh (noteof_no g n A k c b w hlen h0)
  have MN := method_fault (jtE n b)
  obtain ⟨E, hE⟩ : ∃ E, E = jtE n b := ⟨_, rfl⟩
  rw [← hE] at NO MN ⊢
  clear h0 hB hlen hb hE
  go_enter Tryz.func154, Tryz.ntmps154
  go_wp2_with fail
  refine NO.out.mono ?_
  rintro e w1 ⟨rfl, rfl⟩
  clear NO
  go_wp2_with fail
  refine (ftext_any E _).mono ?_
  rintro e w2 ⟨rfl, rfl⟩
  go_wp2
  go_ret2
  exact ⟨none, 0, rfl, OwnTxt.nil _ _, Below.refl _ _⟩
def noAt (o : Option Txt) : Prop := ∀ t, o = some t → ¬ rdOk t
theorem readat_no (D : Option Addr) (n c : Nat) (D' : Option Addr) (n' c' : Nat) (S : List Sec) (C : List Pnd) (a : Int) (w : World) (hq : Dsk w D n c D' n' c' S C) (hs : SmallD S C) (hno : noAt (optAt S C a)) :
  Calls Tryz.prog 127 #[diskV D n c D' n' c', .int .i64 a] w fun e w' => (∃ E, e = .returned (faultV E)) ∧ Below w.heap.size w w' := by
 have X0 := Lh (DBox.new hq)
 have hb0 : Below w.heap.size w (w.alloc (.cells #[.slice D n c, .slice D' n' c'] 25)) := (Below.refl _ _).alloc (Nat.le_refl _) _
 have RD := Lh (dsk_does.read D n c D' n' c' S C a _ (hq.below hb0) hs)
 have B0 := Lh hb0
 by_cases h0 : rdE S C a = 0
 ·have ho : optAt S C a = some (rdB S C a) := if_pos h0
  have hgood := rd_good h0 hq.secs.byte hq.pnds.byte
  have hn := Lh (hno _ ho)
  obtain ⟨t, ht⟩ : ∃ t, t = rdB S C a := ⟨_, rfl⟩
  rw [← ht] at RD hgood hn
  rw [h0] at RD
  obtain ⟨hl, hby⟩ := hgood
  have HBY := Lh hby
  have HL := Lh hl
  clear ho h0 hno hq hs hb0 ht hl hby
  go_enter Tryz.func127, Tryz.ntmps127
  go_wp2_with fail
  refine RD.out.mono ?_
  rintro e w1 ⟨A1, c1, rfl, hown, hb1⟩
  rw [HL.out] at hown
  obtain ⟨g1, rfl, _⟩ := owns_int_at (j := 0) hown (by decide)
  have B1 := Lh (B0.out.trans (hb1.mono B0.out.size))
  have RO := Lh (readof_any g1 0 c1 t w1 (Arg.own hown) HBY.out)
  clear hown hb1 RD X0 B0
  rw [HL.out]
  go_wp2_with fail
  refine RO.out.mono ?_
  rintro e w2 ⟨⟨hy, _⟩ | ⟨_, rfl⟩, hb2⟩
  ·exact absurd hy hn.out
  ·have B2 := Lh (B1.out.trans (hb2.mono B1.out.size))
   clear hb2
   go_wp2
   go_ret
   exact ⟨⟨_, rfl⟩, B2.out⟩
 ·have hb' : rdB S C a = [] := if_neg h0
  rw [hb'] at RD
  obtain ⟨E, hE⟩ : ∃ E, E = rdE S C a := ⟨_, rfl⟩
  rw [← hE] at RD h0
  have hne : (E != 0) = true := by rw [bne_iff_ne]; exact h0
  clear hno hq hs hb0 hb' hE h0
  go_enter Tryz.func127, Tryz.ntmps127
  go_wp2_with fail
  refine RD.out.mono ?_
  rintro e w1 ⟨A1, c1, rfl, hown, hb1⟩
  have B1 := Lh (B0.out.trans (hb1.mono B0.out.size))
  clear hown hb1 RD X0 B0
  go_wp2
  go_ret
  exact ⟨⟨_, rfl⟩, B1.out⟩
theorem readat_yes (D : Option Addr) (n c : Nat) (D' : Option Addr) (n' c' : Nat) (S : List Sec) (C : List Pnd) (a : Int) (t : Txt) (w : World) (hq : Dsk w D n c D' n' c' S C) (hs : SmallD S C) (ho : optAt S C a = some t) (hok : rdOk t) :
  Calls Tryz.prog 127 #[diskV D n c D' n' c', .int .i64 a] w fun e w' => (∃ A, e = .returned (noteV (val (t.take 8)) (t.getD 9 0) A (rdM t) (rdM t)) ∧ OwnTxt w' w.heap.size A (rdM t) (rdM t) (rdTx t)) ∧ Below w.heap.size w w' := by
 have X0 := Lh (DBox.new hq)
 have hb0 : Below w.heap.size w (w.alloc (.cells #[.slice D n c, .slice D' n' c'] 25)) := (Below.refl _ _).alloc (Nat.le_refl _) _
 have RD := Lh (dsk_does.read D n c D' n' c' S C a _ (hq.below hb0) hs)
 have B0 := Lh hb0
 have h0 : rdE S C a = 0 := by
  unfold optAt at ho
  split at ho
  ·assumption
  ·cases ho
 have hgood := rd_good h0 hq.secs.byte hq.pnds.byte
 have ht : rdB S C a = t := by
  unfold optAt at ho
  rw [if_pos h0] at ho
  injection ho
 rw [ht] at RD hgood
 rw [h0] at RD
 obtain ⟨hl, hby⟩ := hgood
 have HBY := Lh hby
 have HL := Lh hl
 have HOK := Lh hok
 obtain ⟨gv, hgv⟩ : ∃ x, x = val (t.take 8) := ⟨_, rfl⟩
 obtain ⟨nv, hnv⟩ : ∃ x, x = t.getD 9 0 := ⟨_, rfl⟩
 obtain ⟨m, hm⟩ : ∃ m, m = rdM t := ⟨_, rfl⟩
 have HM := Lh (⟨by have := rdM_le t; omega, by unfold rdTx; rw [← hm]⟩ : m ≤ 20 ∧ rdTx t = (t.drop 12).take m)
 have RO := Lh (fun b o c wx (h : Arg wx .u8 (some ⟨b, o, none⟩) 32 c t) => readof_any b o c t wx h HBY.out)
 rw [← hgv, ← hnv, ← hm] at RO ⊢
 clear ho h0 hq hs hb0 ht hl hby hok hgv hnv hm
 go_enter Tryz.func127, Tryz.ntmps127
 go_wp2_with fail
 refine RD.out.mono ?_
 rintro e w1 ⟨A1, c1, rfl, hown, hb1⟩
 rw [HL.out] at hown
 obtain ⟨g1, rfl, _⟩ := owns_int_at (j := 0) hown (by decide)
 have B1 := Lh (B0.out.trans (hb1.mono B0.out.size))
 have hsz := B0.out.size
 have RO := Lh (RO.out g1 0 c1 w1 (Arg.own hown))
 have OW := Lh (show OwnTxt w1 w.heap.size (some ⟨g1, 0 + 12, none⟩) m m (rdTx t) by
  have h := ((OwnTxt.of hown).lower hsz).sub (lo := 12) (hi := 12 + m) (by omega) (by have := HM.out.1; omega)
  rw [show 12 + m - 12 = m by omega] at h
  rw [HM.out.2]
  exact h.few (Nat.le_refl _) (by have := HM.out.1; have := (Arg.own hown).cap; omega))
 clear hown hb1 RD X0 B0 hsz
 rw [HL.out]
 go_wp2_with fail
 refine RO.out.mono ?_
 rintro e w2 ⟨⟨_, rfl⟩ | ⟨hno, _⟩, hb2⟩
 ·have B2 := Lh (B1.out.trans (hb2.mono B1.out.size))
  have OW2 := Lh (OW.out.below hb2)
  clear hb2 RO OW
  go_wp2
  go_ret
  exact ⟨⟨_, rfl, OW2.out⟩, B2.out⟩
 ·exact absurd HOK.out hno
end Go.Proofs.YtifgcfepbenpjaaGreat
