/- Layer 10: what the program's three calls do (as a structure of contracts), and a disk with a note more in its cache. -/
import Derived.Test.YteapaoefgcnicaaJrnR3
import Derived.Test.YteapaoefgcnicaaCellAp0
namespace Go.Proofs.Yteapaoefgcnicaa
open Go.RowKit
set_option linter.unusedVariables false

/-- A text of the call's own, beside an error. -/
def TxtOut (w : World) (L : Txt) (E : Int) (e : Ending) (w' : World) : Prop :=
  ∃ A c, e = .returned (.tuple #[.slice A L.length c, .int .i64 E]) ∧ OwnTxt w' w.heap.size A L.length c L ∧ Below w.heap.size w w'
/-- A write of the call's own, beside an error. -/
def PndOut (w : World) (x : Int) (L : Txt) (E : Int) (e : Ending) (w' : World) : Prop :=
  ∃ A c, e = .returned (.tuple #[.agg #[.int .i64 x, .slice A L.length c], .int .i64 E]) ∧ OwnTxt w' w.heap.size A L.length c L ∧ Below w.heap.size w w'
/-- What the program's calls do. -/
structure JrnDoes : Prop where
  text : ∀ (g n : Int) (A : Option Addr) (k c : Nat) (b : Txt) (w : World), isG g → Arg w .u8 A k c b → (∀ z ∈ b, isByte z) → k ≤ 100 → Calls Try.prog 11 #[.int .u64 g, .int .i64 n, .slice A k c] w (TxtOut w (jtB g n b) (jtE n b))
  scan : ∀ (P T A M W Q : Int) (D : Option Addr) (n c : Nat) (D' : Option Addr) (n' c' : Nat) (S : List Sec) (C : List Pnd) (a g : Int) (w : World), Dsk w D n c D' n' c' S C → SmallD S C → isG g → Calls Try.prog 9 #[cfgV P T A M W Q, diskV D n c D' n' c', .int .i64 a, .int .u64 g] w (ScanOut w (jsL P T A M W Q S C a g) (jaE P T A M W Q S C a))
  plan : ∀ (P T A M W Q : Int) (D : Option Addr) (n c : Nat) (D' : Option Addr) (n' c' : Nat) (S : List Sec) (C : List Pnd) (a g j : Int) (Ab : Option Addr) (nb cb : Nat) (b : Txt) (w : World), Dsk w D n c D' n' c' S C → SmallD S C → isG g → Arg w .u8 Ab nb cb b → (∀ z ∈ b, isByte z) → nb ≤ 100 → Calls Try.prog 12 #[cfgV P T A M W Q, diskV D n c D' n' c', .int .i64 a, .int .u64 g, .int .i64 j, .slice Ab nb cb] w (PndOut w (jpN P T A M W Q S C a j b) (jpB P T A M W Q S C a g j b) (jpE P T A M W Q S C a j b))

theorem two10_any (w : World) : Calls Try.prog 10 #[] w fun e w' => e = .returned (cfgV 2 9 4 2 2 8) ∧ Below w.heap.size w w' := by
  have y := Blk.new w 33 [.int .i64 2, .int .i64 9, .int .i64 4, .int .i64 2, .int .i64 2, .int .i64 8]
  obtain ⟨z0, z1, z2, z3, z4, z5⟩ := y.cfg
  have hb : Below w.heap.size w (w.alloc (.cells #[.int .i64 2, .int .i64 9, .int .i64 4, .int .i64 2, .int .i64 2, .int .i64 8] 33)) := (Below.refl _ _).alloc (Nat.le_refl _) _
  have HB := Lib.hid hb
  clear y hb
  go_enter Try.func10, Try.ntmps10
  go_wp2
  refine bodyPost_ret (v := cfgV 2 9 4 2 2 8) ?_ rfl ⟨rfl, HB.out⟩
  simp [results, Try.f10, go_sem, z0, z1, z2, z3, z4, z5]

/-- The boxes of with. -/
structure WBox (w : World) (G : Nat) (P T A M W Q : Int) (D : Option Addr) (n c : Nat) (D' : Option Addr) (n' c' : Nat) (S : List Sec) (C : List Pnd) : Prop where
  two : TBox w G P T A M W Q D n c D' n' c' S C
  res : Blk w (G + 2) 25 [.slice none 0 0, .slice none 0 0]
section
variable {w w' : World} {G : Nat} {P T A M W Q : Int} {D D' : Option Addr} {n c n' c' : Nat} {S : List Sec} {C : List Pnd}
theorem WBox.below (x : WBox w G P T A M W Q D n c D' n' c' S C) (hb : Below w.heap.size w w') : WBox w' G P T A M W Q D n c D' n' c' S C := ⟨x.two.below hb, x.res.below hb x.res.lt⟩
theorem WBox.new (P T A M W Q : Int) (t : Dsk w D n c D' n' c' S C) : WBox (((w.alloc (.cells #[.int .i64 P, .int .i64 T, .int .i64 A, .int .i64 M, .int .i64 W, .int .i64 Q] 33)).alloc (.cells #[.slice D n c, .slice D' n' c'] 25)).alloc (.cells #[.slice none 0 0, .slice none 0 0] 25)) w.heap.size P T A M W Q D n c D' n' c' S C ∧ Below w.heap.size w (((w.alloc (.cells #[.int .i64 P, .int .i64 T, .int .i64 A, .int .i64 M, .int .i64 W, .int .i64 Q] 33)).alloc (.cells #[.slice D n c, .slice D' n' c'] 25)).alloc (.cells #[.slice none 0 0, .slice none 0 0] 25)) := by
  obtain ⟨x, hb⟩ := TBox.new P T A M W Q t
  have hk := (Below.refl ((w.alloc (.cells #[.int .i64 P, .int .i64 T, .int .i64 A, .int .i64 M, .int .i64 W, .int .i64 Q] 33)).alloc (.cells #[.slice D n c, .slice D' n' c'] 25)).heap.size _).alloc (Nat.le_refl _) (.cells #[.slice none 0 0, .slice none 0 0] 25)
  have y := Blk.new ((w.alloc (.cells #[.int .i64 P, .int .i64 T, .int .i64 A, .int .i64 M, .int .i64 W, .int .i64 Q] 33)).alloc (.cells #[.slice D n c, .slice D' n' c'] 25)) 25 [.slice none 0 0, .slice none 0 0]
  rw [World.size_alloc, World.size_alloc] at y
  exact ⟨⟨x.below hk, y⟩, hb.alloc hb.size _⟩
end

theorem jpE_zero {P T A M W Q : Int} {S : List Sec} {C : List Pnd} {a j : Int} {b : Txt} (h : jpE P T A M W Q S C a j b = 0) : mayT P T A M W Q S C ∧ arJ a ∧ 0 ≤ j ∧ j < A ∧ (1 ≤ b.length ∧ b.length ≤ 20) := by
  have h0 : jaE P T A M W Q S C a = 0 := by
    unfold jpE at h
    split at h
    · assumption
    · rename_i h1; exact absurd h h1
  have hm : mayT P T A M W Q S C ∧ arJ a := by
    unfold jaE at h0
    split at h0
    · split at h0
      · exact ⟨by assumption, by assumption⟩
      · cases h0
    · cases h0
  unfold jpE at h
  rw [if_pos h0] at h
  split at h
  · split at h
    · refine ⟨hm.1, hm.2, by assumption, by assumption, ?_⟩
      unfold jtE at h
      split at h
      · assumption
      · cases h
    · cases h
  · cases h
/-- The write of a note. -/
theorem jp_write {P T A M W Q : Int} {S : List Sec} {C : List Pnd} {a g j : Int} {b : Txt} (h : jpE P T A M W Q S C a j b = 0) (h64 : C.length < 64) :
    wrE S C (2 + a * A + j) (jT g j b) = 0 ∧ wrS S C (2 + a * A + j) (jT g j b) = S ∧ wrC S C (2 + a * A + j) (jT g j b) = C ++ [(2 + a * A + j, jT g j b)] := by
  obtain ⟨hm, ha, h1, h2, h3⟩ := jpE_zero h
  obtain ⟨k, rfl⟩ := Int.eq_ofNat_of_zero_le h1
  have hr := at_area hm ha (n := k) h2
  have hask : askE S C (2 + a * A + (k : Int)) = 0 := by
    unfold askE
    rw [if_pos hm.2.1]
    exact if_neg (by omega)
  have h0 : wrE S C (2 + a * A + (k : Int)) (jT g k b) = 0 := by
    unfold wrE
    rw [if_pos hask, if_pos (jT_length g k h3.2), if_neg (by omega)]
  exact ⟨h0, if_pos h0, if_pos h0⟩

set_option maxRecDepth 100000 in
set_option maxHeartbeats 6400000 in
theorem with_yes (J : JrnDoes) (P T A M W Q : Int) (D : Option Addr) (n c : Nat) (D' : Option Addr) (n' c' : Nat) (S : List Sec) (C : List Pnd) (a g j : Int) (Ab : Option Addr) (nb cb : Nat) (b : Txt) (w : World) (hq : Dsk w D n c D' n' c' S C) (hs : SmallD S C) (hg : isG g) (hb0 : Arg w .u8 Ab nb cb b) (hby : ∀ z ∈ b, isByte z) (hnb : nb ≤ 100)
    (hp : jpE P T A M W Q S C a j b = 0) (h64 : C.length < 64) :
    Calls Try.prog 13 #[cfgV P T A M W Q, diskV D n c D' n' c', .int .i64 a, .int .u64 g, .int .i64 j, .slice Ab nb cb] w fun e w' => ∃ A2 c2 A2' c2', e = .returned (.tuple #[diskV A2 n c2 A2' (n' + 1) c2', .bool true]) ∧ OwnDsk w' w.heap.size A2 n c2 A2' (n' + 1) c2' S (C ++ [(2 + a * A + j, jT g j b)]) ∧ Below w.heap.size w w' := by
  obtain ⟨x, hbel⟩ := WBox.new P T A M W Q hq
  obtain ⟨w0, hw0⟩ : ∃ x : World, x = ((w.alloc (.cells #[.int .i64 P, .int .i64 T, .int .i64 A, .int .i64 M, .int .i64 W, .int .i64 Q] 33)).alloc (.cells #[.slice D n c, .slice D' n' c'] 25)).alloc (.cells #[.slice none 0 0, .slice none 0 0] 25) := ⟨_, rfl⟩
  rw [← hw0] at x hbel
  have X := Lib.hid x
  have B := Lib.hid hbel
  have RB := Lib.hid (hb0.below hbel)
  have PL := Lib.hid (fun wx hx (hr : Arg wx .u8 Ab nb cb b) => J.plan P T A M W Q D n c D' n' c' S C a g j Ab nb cb b wx hx hs hg hr hby hnb)
  unfold PndOut at PL
  obtain ⟨k1, k2, k3⟩ := jp_write (g := g) hp h64
  have h20 := (jpE_zero hp).2.2.2.2.2
  rw [hp, show jpN P T A M W Q S C a j b = 2 + a * A + j from if_pos hp, show jpB P T A M W Q S C a g j b = jT g j b from if_pos hp] at PL
  have hjl := jT_length g j h20
  have hjb := jT_byte g j hby
  have hsl := hq.secs.len
  have hpl := hq.pnds.len
  obtain ⟨p, hpp⟩ : ∃ p, p = 2 + a * A + j := ⟨_, rfl⟩
  rw [← hpp] at PL k1 k2 k3 ⊢
  obtain ⟨t, ht⟩ : ∃ t, t = jT g j b := ⟨_, rfl⟩
  rw [← ht] at PL k1 k2 k3 hjl hjb ⊢
  rw [hjl] at PL
  have WR := Lib.hid (fun wx A0 c0 hx (hr : Arg wx .u8 A0 32 c0 t) => (dsk_does.write D n c D' n' c' S C p A0 32 c0 t wx hx hs hr hjb (by omega)).mono fun e w' ho => DiskOut.as ho (S' := S) (C' := C ++ [(p, t)]) (E' := 0) (n := n) (n' := n' + 1) k2 k3 k1 hsl (by rw [List.length_append, hpl]; rfl))
  obtain ⟨c0, c1, c2, c3, c4, c5, d0, d1⟩ := X.out.two.cells
  clear x hbel hq hs hg hb0 hby hnb hp h64 k1 k2 k3 h20 hjl hjb hsl hpl hpp ht
  go_enter Try.func13, Try.ntmps13
  go_wp2_with fail
  rw [← hw0]
  clear hw0
  refine (PL.out _ X.out.two.dsk.dsk RB.out).mono ?_
  rintro e w1 ⟨A1, c1', rfl, hown, hb⟩
  have hbk : Below w1.heap.size w1 (w1.alloc (.cells #[.int .i64 p, .slice A1 32 c1'] 40)) := (Below.refl _ _).alloc (Nat.le_refl _) _
  have Y := Blk.new w1 40 [.int .i64 p, .slice A1 32 c1']
  have hb := hb.trans (hbk.mono hb.size)
  have O := Lib.hid (hown.below hbk).arg
  have B := Lib.hid (B.out.trans (hb.mono B.out.size))
  have X := Lib.hid (X.out.below hb)
  clear hb hbk hown c0 c1 c2 c3 c4 c5 d0 d1 PL RB
  go_upto_region 2 with fail
  obtain ⟨G1, hG⟩ : ∃ x, x = w1.heap.size := ⟨_, rfl⟩
  rw [← hG] at Y ⊢
  obtain ⟨w2, hW⟩ : ∃ x : World, x = w1.alloc (.cells #[.int .i64 p, .slice A1 32 c1'] 40) := ⟨_, rfl⟩
  rw [← hW] at X B Y O ⊢
  clear hW hG
  have y0 := Y.cell 0
  have y1 := Y.cell 1
  simp only [List.getElem?_cons_zero, List.getElem?_cons_succ] at y0 y1
  clear Y
  obtain ⟨d0, d1⟩ := X.out.two.dsk.cells
  go_wp2_with fail
  refine (WR.out _ A1 c1' X.out.two.dsk.dsk O.out).mono ?_
  rintro e w3 ⟨A9, c9, A9', c9', rfl, hown, hb⟩
  have hbk : Below w3.heap.size w3 (w3.alloc (.cells #[.slice A9 n c9, .slice A9' (n' + 1) c9'] 25)) := (Below.refl _ _).alloc (Nat.le_refl _) _
  have Y := Blk.new w3 25 [.slice A9 n c9, .slice A9' (n' + 1) c9']
  have hb := hb.trans (hbk.mono hb.size)
  have OD := Lib.hid ((hown.below hbk).lower B.out.size)
  have B := Lib.hid (B.out.trans (hb.mono B.out.size))
  have RS := Lib.hid (X.out.below hb).res
  clear hb hbk hown d0 d1 y0 y1 WR O X
  go_upto_region 5 with fail
  obtain ⟨G3, hG⟩ : ∃ x, x = w3.heap.size := ⟨_, rfl⟩
  rw [← hG] at Y ⊢
  obtain ⟨w4, hW⟩ : ∃ x : World, x = w3.alloc (.cells #[.slice A9 n c9, .slice A9' (n' + 1) c9'] 25) := ⟨_, rfl⟩
  rw [← hW] at B Y OD RS ⊢
  clear hW hG
  have y0 := Y.cell 0
  have y1 := Y.cell 1
  have q0 := RS.out.cell 0
  have q1 := RS.out.cell 1
  have f0 := RS.out.free 0
  have f1 := RS.out.free 1
  simp only [List.getElem?_cons_zero, List.getElem?_cons_succ] at y0 y1 q0 q1
  clear Y
  go_wp2
  have r := RS.out.two (.slice A9 n c9) (.slice A9' (n' + 1) c9')
  have r0 := r.cell 0
  have r1 := r.cell 1
  simp only [List.getElem?_cons_zero, List.getElem?_cons_succ] at r0 r1
  refine bodyPost_ret (v := .tuple #[diskV A9 n c9 A9' (n' + 1) c9', .bool true]) ?_ rfl ⟨A9, c9, A9', c9', rfl, OD.out.two RS.out _ _, below_two B.out (by omega) _ _⟩
  clear y0 y1 q0 q1 f0 f1
  simp [results, Try.f13, go_sem, r0, r1]

set_option maxRecDepth 100000 in
set_option maxHeartbeats 6400000 in
theorem with_no (J : JrnDoes) (P T A M W Q : Int) (D : Option Addr) (n c : Nat) (D' : Option Addr) (n' c' : Nat) (S : List Sec) (C : List Pnd) (a g j : Int) (Ab : Option Addr) (nb cb : Nat) (b : Txt) (w : World) (hq : Dsk w D n c D' n' c' S C) (hs : SmallD S C) (hg : isG g) (hb0 : Arg w .u8 Ab nb cb b) (hby : ∀ z ∈ b, isByte z) (hnb : nb ≤ 100)
    (hp : jpE P T A M W Q S C a j b ≠ 0) :
    Calls Try.prog 13 #[cfgV P T A M W Q, diskV D n c D' n' c', .int .i64 a, .int .u64 g, .int .i64 j, .slice Ab nb cb] w fun e w' => e = .returned (.tuple #[diskV D n c D' n' c', .bool false]) ∧ Below w.heap.size w w' := by
  obtain ⟨x, hbel⟩ := WBox.new P T A M W Q hq
  obtain ⟨w0, hw0⟩ : ∃ x : World, x = ((w.alloc (.cells #[.int .i64 P, .int .i64 T, .int .i64 A, .int .i64 M, .int .i64 W, .int .i64 Q] 33)).alloc (.cells #[.slice D n c, .slice D' n' c'] 25)).alloc (.cells #[.slice none 0 0, .slice none 0 0] 25) := ⟨_, rfl⟩
  rw [← hw0] at x hbel
  have X := Lib.hid x
  have B := Lib.hid hbel
  have RB := Lib.hid (hb0.below hbel)
  have PL := Lib.hid (fun wx hx (hr : Arg wx .u8 Ab nb cb b) => J.plan P T A M W Q D n c D' n' c' S C a g j Ab nb cb b wx hx hs hg hr hby hnb)
  unfold PndOut at PL
  obtain ⟨E, hE⟩ : ∃ E, E = jpE P T A M W Q S C a j b := ⟨_, rfl⟩
  obtain ⟨p, hpp⟩ : ∃ p, p = jpN P T A M W Q S C a j b := ⟨_, rfl⟩
  obtain ⟨m, hmm⟩ : ∃ p, p = (jpB P T A M W Q S C a g j b).length := ⟨_, rfl⟩
  rw [← hE] at hp PL
  rw [← hpp, ← hmm] at PL
  have q0 : (E != 0) = true := bne_iff_ne.2 hp
  obtain ⟨c0, c1, c2, c3, c4, c5, d0, d1⟩ := X.out.two.cells
  clear x hbel hq hs hg hb0 hby hnb hp hE hpp hmm
  go_enter Try.func13, Try.ntmps13
  go_wp2_with fail
  rw [← hw0]
  clear hw0
  refine (PL.out _ X.out.two.dsk.dsk RB.out).mono ?_
  rintro e w1 ⟨A1, c1', rfl, hown, hb⟩
  have hb := hb.alloc hb.size (.cells #[.int .i64 p, .slice A1 m c1'] 40)
  have B := Lib.hid (B.out.trans (hb.mono B.out.size))
  have X := Lib.hid (X.out.below hb)
  clear hb hown c0 c1 c2 c3 c4 c5 d0 d1 PL RB
  go_upto_region 2 with fail
  obtain ⟨G1, hG⟩ : ∃ x, x = w1.heap.size := ⟨_, rfl⟩
  rw [← hG]
  obtain ⟨w2, hW⟩ : ∃ x : World, x = w1.alloc (.cells #[.int .i64 p, .slice A1 m c1'] 40) := ⟨_, rfl⟩
  rw [← hW] at X B ⊢
  clear hW hG
  have RS := Lib.hid X.out.res
  obtain ⟨d0, d1⟩ := X.out.two.dsk.cells
  have y0 := RS.out.cell 0
  have y1 := RS.out.cell 1
  have f0 := RS.out.free 0
  have f1 := RS.out.free 1
  simp only [List.getElem?_cons_zero, List.getElem?_cons_succ] at y0 y1
  clear X
  go_wp2
  have r := RS.out.two (.slice D n c) (.slice D' n' c')
  have r0 := r.cell 0
  have r1 := r.cell 1
  simp only [List.getElem?_cons_zero, List.getElem?_cons_succ] at r0 r1
  refine bodyPost_ret (v := .tuple #[diskV D n c D' n' c', .bool false]) ?_ rfl ⟨rfl, below_two B.out (by omega) _ _⟩
  clear y0 y1 d0 d1 f0 f1
  simp [results, Try.f13, go_sem, r0, r1]

end Go.Proofs.Yteapaoefgcnicaa
