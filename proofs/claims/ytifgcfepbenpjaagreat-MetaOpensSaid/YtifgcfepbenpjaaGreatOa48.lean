/- Texts of layers 1 to 12, joined. -/
import Derived.Test.YtifgcfepbenpjaaGreatOa47
import Derived.Deep.RegionHeld3
set_option maxRecDepth 100000
set_option maxHeartbeats 12800000
set_option linter.unusedVariables false
namespace Go.Proofs.YtifgcfepbenpjaaGreat
open Go.RowKit
def PlanOutB (w : World) (base : Nat) (m : Mt) (l : List Ac) (E : Int) (e : Ending) (w' : World) : Prop := ∃ A' c' A2 c2, e = .returned (.tuple #[metV m.s.1 m.s.2.1 m.s.2.2 m.n m.u A' m.t.length c', .slice A2 l.length c2, .int .i64 E]) ∧ OwnRecs w' base A' m.t.length c' m.t ∧ OwnActs w' w.heap.size A2 l.length c2 l ∧ Below w.heap.size w w'
theorem OwnActs.sixM {w : World} {base : Nat} {A : Option Addr} {m d : Nat} {L : List Ac} (h : OwnActs w base A m d L) {G : Nat} (hg : G < base) (v a g n u : Int) (B : Option Addr) (k c : Nat) : OwnActs ((((((w.setCell ⟨G, 0, none⟩ (.int .u32 v)).setCell ⟨G, 1, none⟩ (.int .i64 a)).setCell ⟨G, 2, none⟩ (.int .u64 g)).setCell ⟨G, 3, none⟩ (.int .i64 n)).setCell ⟨G, 4, none⟩ (.int .i64 u)).setCell ⟨G, 5, none⟩ (.slice B k c)) base A m d L :=
 (((((h.away hg 0 _).away hg 1 _).away hg 2 _).away hg 3 _).away hg 4 _).away hg 5 _
theorem pplan_boot (P T A M W Q : Int) (D : Option Addr) (nd d : Nat) (D' : Option Addr) (nd' d' : Nat) (S : List Sec) (C : List Pnd) (v a g n u : Int) (B : Option Addr) (k c : Nat) (t : List Rc) (w : World) (hq : Dsk w D nd d D' nd' d' S C) (hs : SmallD S C) (hi : isS (v, a, g)) (ht : Recs w B k c t) (hk : k ≤ 1000) :
  Calls Tryz.prog 36 #[.func (.func 39) #[ldV P T A M W Q D nd d D' nd' d' v a g n u B k c] #[]] w (PlanOutB w w.heap.size (if (if v = 4294967295 then 9 else spE P T A M W Q S C (v + 1, a, g)) = 0 then ⟨(v + 1, a, g), n, 0, t⟩ else zM) (if (if v = 4294967295 then 9 else spE P T A M W Q S C (v + 1, a, g)) = 0 then actsA (spL P T A M W Q S C (v + 1, a, g)) else []) ((if v = 4294967295 then 9 else spE P T A M W Q S C (v + 1, a, g)))) := by
 obtain ⟨z, h1⟩ := met_box w 0 0 0 0 0 none 0 0
 have c1 := Blk.new (w.alloc (.cells #[.int .u32 0, .int .i64 0, .int .u64 0, .int .i64 0, .int .i64 0, .slice none 0 0] 32)) 38 [.slice none 0 0]
 have h2 : Below (w.alloc (.cells #[.int .u32 0, .int .i64 0, .int .u64 0, .int .i64 0, .int .i64 0, .slice none 0 0] 32)).heap.size (w.alloc (.cells #[.int .u32 0, .int .i64 0, .int .u64 0, .int .i64 0, .int .i64 0, .slice none 0 0] 32)) ((w.alloc (.cells #[.int .u32 0, .int .i64 0, .int .u64 0, .int .i64 0, .int .i64 0, .slice none 0 0] 32)).alloc (.cells #[.slice none 0 0] 38)) := (Below.refl _ _).alloc (Nat.le_refl _) _
 rw [World.size_alloc] at c1
 replace z := z.below h2 z.lt
 have hb := h1.trans (h2.mono h1.size)
 obtain ⟨w1, hw1⟩ : ∃ y, y = ((w.alloc (.cells #[.int .u32 0, .int .i64 0, .int .u64 0, .int .i64 0, .int .i64 0, .slice none 0 0] 32)).alloc (.cells #[.slice none 0 0] 38)) := ⟨_, rfl⟩
 change Blk ((w.alloc (.cells #[.int .u32 0, .int .i64 0, .int .u64 0, .int .i64 0, .int .i64 0, .slice none 0 0] 32)).alloc (.cells #[.slice none 0 0] 38)) _ _ _ at c1
 rw [← hw1] at z c1 hb
 have GA : Gath w1 (w.heap.size + 1) [] := ⟨none, 0, 0, c1, OwnActs.nil _ _⟩
 have ST := Lh ((pboot_any (w.heap.size + 1) [] P T A M W Q D nd d D' nd' d' S C v a g n u B k c t w w1 GA hq hs (Nat.le_succ _) hb hi ht hk (Nat.zero_le _)).mono fun e w' hx => by obtain ⟨A1, x1, l1, q1, q2, q3⟩ := hx; exact (⟨A1, x1, l1, q1, q2.lower hb.size, q3⟩ : StepOut w1 (w.heap.size + 1) w.heap.size _ _ _ e w'))
 have Z := Lh z
 have BB := Lh hb
 unfold StepOut at ST
 unfold PlanOutB
 obtain ⟨E, hEE⟩ : ∃ y, y = (if v = 4294967295 then 9 else spE P T A M W Q S C (v + 1, a, g)) := ⟨_, rfl⟩
 rw [← hEE] at ST ⊢
 obtain ⟨mm, hmm⟩ : ∃ y : Mt, y = if E = 0 then ⟨(v + 1, a, g), n, 0, t⟩ else zM := ⟨_, rfl⟩
 rw [← hmm] at ST ⊢
 rw [List.nil_append] at ST
 obtain ⟨lx, hlx⟩ : ∃ y, y = actsA (spL P T A M W Q S C (v + 1, a, g)) := ⟨_, rfl⟩
 rw [← hlx] at ST ⊢
 clear z c1 h1 h2 hb GA hEE hlx hq hs hi ht hk
 by_cases h0 : E = 0
 ·subst h0
  rw [if_pos rfl]
  clear hmm
  obtain ⟨⟨V1, V2, V3⟩, V4, V5, tm⟩ := mm
  dsimp only at ST ⊢
  obtain ⟨tn, htn⟩ : ∃ y, y = tm.length := ⟨_, rfl⟩
  rw [← htn] at ST ⊢
  clear htn
  go_enter Tryz.func36, Tryz.ntmps36
  go_upto_region 2 with fail
  rw [← hw1]
  clear hw1
  go_wp2_with fail
  refine ST.out.mono ?_
  rintro e w2 ⟨A2, x2, l2, rfl, hown, ho, hl2⟩
  have OR := Lh hown
  have HO := Lh ho
  have HL2 := Lh hl2
  have Z := Lh (ho.2.2.blk Z.out (by decide) (by decide))
  clear hown ho hl2 ST
  have hl := HL2.out (by trivial)
  subst hl
  obtain ⟨AC, nC, cC, g1, g2⟩ := HO.out.1
  have hnC := g2.len
  obtain ⟨y, hk⟩ := met_box w2 V1 V2 V3 V4 V5 A2 tn x2
  have G2 := Lh (g2.below hk)
  have g3 := g1.below hk g1.lt
  have BA := Lh (BB.out.trans ((HO.out.2.1.mono (Nat.le_succ _)).trans (hk.mono (Nat.le_of_lt (Nat.lt_of_lt_of_le (Nat.lt_succ_self _) (Nat.le_of_lt HO.out.1.lt))))))
  have OR := Lh (OR.out.below hk)
  have Z := Lh (Z.out.below hk Z.out.lt)
  obtain ⟨w3, hw3⟩ : ∃ x : World, x = w2.alloc (.cells #[.int .u32 V1, .int .i64 V2, .int .u64 V3, .int .i64 V4, .int .i64 V5, .slice A2 tn x2] 32) := ⟨_, rfl⟩
  rw [← hw3] at y G2 g3 BA OR Z
  obtain ⟨y0, y1, y2, y3, y4, y5⟩ := y.met
  have g0 : w3.cell? ⟨w.heap.size + 1, 0, none⟩ = some (.slice AC nC cC) := g3.cell 0
  clear g1 g2 g3 y hk HO HL2
  subst hnC
  go_upto_region 5 with fail
  rw [← hw3]
  clear hw3
  have fz := Z.out.free
  obtain ⟨e0, e1, e2, e3, e4, e5⟩ := Z.out.met
  go_region
  go_wp2
  obtain ⟨z0, z1, z2, z3, z4, z5⟩ := (Z.out.sixM V1 V2 V3 V4 V5 A2 tn x2).met
  refine bodyPost_ret (v := .tuple #[metV V1 V2 V3 V4 V5 A2 tn x2, .slice AC l2.length cC, .int .i64 0]) ?_ rfl ⟨A2, x2, AC, cC, rfl, (OR.out.boxSix Z.out _ _ _ _ _ _ _ _).below (below_drewN (Below.refl _ _) 1), ((G2.out.sixM (by omega) _ _ _ _ _ _ _ _).lower (by omega)).below (below_drewN (Below.refl _ _) 1), below_drewN (below_sixM BA.out (Nat.le_refl _) _ _ _ _ _ _ _ _) 1⟩
  clear y0 y1 y2 y3 y4 y5 g0 fz e0 e1 e2 e3 e4 e5
  simp [results, Tryz.f36, go_sem, z0, z1, z2, z3, z4, z5]
 ·rw [if_neg h0]
  rw [if_neg h0] at hmm
  subst hmm
  dsimp only [zM, List.length_nil] at ST ⊢
  have hz : (E != 0) = true := by simpa using h0
  clear h0
  go_enter Tryz.func36, Tryz.ntmps36
  go_upto_region 2 with fail
  rw [← hw1]
  clear hw1
  go_wp2_with fail
  refine ST.out.mono ?_
  rintro e w2 ⟨A2, x2, l2, rfl, hown, ho, hl2⟩
  have OR := Lh hown
  have HO := Lh ho
  have HL2 := Lh hl2
  have Z := Lh (ho.2.2.blk Z.out (by decide) (by decide))
  clear hown ho hl2 ST
  have BA := Lh (BB.out.trans (HO.out.2.1.mono (Nat.le_succ _)))
  obtain ⟨y, hk⟩ := met_box w2 0 0 0 0 0 A2 0 x2
  have BA := Lh (BA.out.trans (hk.mono BA.out.size))
  have Z := Lh (Z.out.below hk Z.out.lt)
  obtain ⟨w3, hw3⟩ : ∃ x : World, x = w2.alloc (.cells #[.int .u32 0, .int .i64 0, .int .u64 0, .int .i64 0, .int .i64 0, .slice A2 0 x2] 32) := ⟨_, rfl⟩
  rw [← hw3] at BA Z
  clear y hk OR HO HL2
  go_upto_region 3 with fail
  rw [← hw3]
  clear hw3
  have fz := Z.out.free
  obtain ⟨e0, e1, e2, e3, e4, e5⟩ := Z.out.met
  go_wp2
  obtain ⟨z0, z1, z2, z3, z4, z5⟩ := (Z.out.sixM 0 0 0 0 0 none 0 0).met
  refine bodyPost_ret (v := .tuple #[metV 0 0 0 0 0 none 0 0, .slice none 0 0, .int .i64 E]) ?_ rfl ⟨none, 0, none, 0, rfl, OwnRecs.nil _ _, OwnActs.nil _ _, below_sixM BA.out (Nat.le_refl _) _ _ _ _ _ _ _ _⟩
  clear fz e0 e1 e2 e3 e4 e5
  simp [results, Tryz.f36, go_sem, z0, z1, z2, z3, z4, z5]
end Go.Proofs.YtifgcfepbenpjaaGreat
