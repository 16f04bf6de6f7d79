/- Layer 6, the program: parts that follow one another, joined. No statement is proved here. -/
/- Layer 6, the program: what a slot holds: the deferred function. No statement is proved here. -/
/- Layer 6, the program: the parts of a slot: rows of them, and what is read of sectors. No statement is proved here. -/
import Derived.Test.YteinfkjlcpfeiaaCellP4
import Derived.Test.YteinfkjlcpfeiaaDup
import Derived.Test.YteinfkjlcpfeiaaPairs
import Derived.Defers
import Derived.Recover
import Derived.Laws.Pointers
namespace Go.Proofs.Yteinfkjlcpfeiaa
open Go.RowKit
set_option linter.unusedVariables false

abbrev Prt := Int × Txt
/-- May p stand behind last? -/
def follows (p last : Prt) : Prop := p.1 = last.1 ∧ (p.2.length = 0 ∨ 24 ≤ last.2.length)
instance (p last : Prt) : Decidable (follows p last) := by unfold follows; exact inferInstance

set_option maxHeartbeats 1600000 in
theorem follow_any (v v' : Int) (A A' : Option Addr) (c c' : Nat) (b b' : Txt) (w : World) :
    Calls Try.prog 106 #[contV v A b.length c, contV v' A' b'.length c'] w fun e w' =>
      (follows (v, b) (v', b') ∧ e = .returned (.tuple #[]) ∧ Below w.heap.size w w') ∨ (¬ follows (v, b) (v', b') ∧ Panics w e w') := by
  have x := Blk.new w 109 [.int .u32 v, .slice A b.length c]
  have y := Blk.new (w.alloc (.cells #[.int .u32 v, .slice A b.length c] 109)) 109 [.int .u32 v', .slice A' b'.length c']
  have hb1 : Below w.heap.size w (w.alloc (.cells #[.int .u32 v, .slice A b.length c] 109)) := (Below.refl _ _).alloc (Nat.le_refl _) _
  have hb2 : Below (w.alloc (.cells #[.int .u32 v, .slice A b.length c] 109)).heap.size (w.alloc (.cells #[.int .u32 v, .slice A b.length c] 109)) ((w.alloc (.cells #[.int .u32 v, .slice A b.length c] 109)).alloc (.cells #[.int .u32 v', .slice A' b'.length c'] 109)) := (Below.refl _ _).alloc (Nat.le_refl _) _
  have x2 := x.below hb2 x.lt
  have B := Lib.hid (hb1.trans (hb2.mono hb1.size))
  rw [World.size_alloc] at y
  have p0 := x2.cell 0
  have p1 := x2.cell 1
  have q0 := y.cell 0
  have q1 := y.cell 1
  simp only [List.getElem?_cons_zero, List.getElem?_cons_succ] at p0 p1 q0 q1
  obtain ⟨k, hk⟩ : ∃ k, k = b.length := ⟨_, rfl⟩
  obtain ⟨k', hk'⟩ : ∃ k, k = b'.length := ⟨_, rfl⟩
  have HF := Lib.hid (show follows (v, b) (v', b') ↔ v = v' ∧ (k = 0 ∨ 24 ≤ k') by rw [hk, hk']; exact Iff.rfl)
  rw [← hk] at p0 p1 q0 q1 B ⊢
  rw [← hk'] at p0 p1 q0 q1 B ⊢
  clear x y hb1 hb2 x2 hk hk'
  by_cases hv : v = v'
  · have hv2 : (v != v') = false := by rw [hv]; exact bne_self_eq_false v'
    by_cases h0 : k = 0
    · have h1 : ¬ (0 : Int) < (k : Int) := by omega
      have HY := Lib.hid (HF.out.2 ⟨hv, .inl h0⟩)
      clear hv h0 HF
      go_enter Try.func106, Try.ntmps106
      go_wp2
      first | go_end0 | refine bodyPost_ret (results_none rfl _ _ _) rfl ?_
      exact .inl ⟨HY.out, rfl, B.out⟩
    · have h1 : (0 : Int) < (k : Int) := by omega
      by_cases h2 : 24 ≤ k'
      · have h3 : ¬ (k' : Int) < 24 := by omega
        have HY := Lib.hid (HF.out.2 ⟨hv, .inr h2⟩)
        clear hv h0 HF h2
        go_enter Try.func106, Try.ntmps106
        go_wp2
        first | go_end0 | refine bodyPost_ret (results_none rfl _ _ _) rfl ?_
        exact .inl ⟨HY.out, rfl, B.out⟩
      · have h3 : (k' : Int) < 24 := by omega
        have HY := Lib.hid (fun h => (HF.out.1 h).2.elim h0 h2 : ¬ follows (v, b) (v', b'))
        clear hv h0 HF h2
        go_enter Try.func106, Try.ntmps106
        go_wp2
        exact ⟨rfl, .inr ⟨HY.out, ⟨_, rfl⟩, B.out⟩⟩
  · have hv2 : (v != v') = true := bne_iff_ne.2 hv
    have HY := Lib.hid (fun h => hv (HF.out.1 h).1 : ¬ follows (v, b) (v', b'))
    clear hv HF
    go_enter Try.func106, Try.ntmps106
    go_wp2
    exact ⟨rfl, .inr ⟨HY.out, ⟨_, rfl⟩, B.out⟩⟩

/-- Parts, as they are read. -/
structure Prts (w : World) (A : Option Addr) (n c : Nat) (ps : List Prt) : Prop where
  len : ps.length = n
  at_ : ∀ i, i < n → ∃ b Ai ni ci, A = some ⟨b, 0, none⟩ ∧ b < w.heap.size ∧ w.cell? ⟨b, i * 2, none⟩ = some (.int .u32 (ps.getD i (0, [])).1) ∧ w.cell? ⟨b, i * 2 + 1, none⟩ = some (.slice Ai ni ci) ∧ Arg w .u8 Ai ni ci (ps.getD i (0, [])).2

def joinV (ps : List Prt) : Int := ps.foldl (fun _ p => p.1) 0
def joinB (ps : List Prt) : Txt := (ps.map Prod.snd).flatten
theorem take_snoc {α : Type} {l : List α} {k : Nat} (h : k < l.length) (d : α) : l.take (k + 1) = l.take k ++ [l.getD k d] := by
  rw [List.take_add_one, List.getD_eq_getElem?_getD, List.getElem?_eq_getElem h]
  rfl
theorem joinV_snoc (ps : List Prt) (p : Prt) : joinV (ps ++ [p]) = p.1 := by simp [joinV, List.foldl_append]
theorem joinB_snoc (ps : List Prt) (p : Prt) : joinB (ps ++ [p]) = joinB ps ++ p.2 := by simp [joinB]
theorem joinB_length {ps : List Prt} {m : Nat} (h : ∀ p ∈ ps, p.2.length ≤ m) : (joinB ps).length ≤ m * ps.length := by
  induction ps with
  | nil => simp [joinB]
  | cons p t ih =>
    have h1 := ih fun q hq => h q (List.mem_cons_of_mem _ hq)
    have h2 := h p (List.mem_cons_self ..)
    have h3 : (joinB (p :: t)).length = p.2.length + (joinB t).length := by simp [joinB]
    rw [h3, List.length_cons, Nat.mul_succ]
    omega

set_option maxRecDepth 100000 in
set_option maxHeartbeats 3200000 in
theorem joined_any (A : Option Addr) (n c : Nat) (ps : List Prt) (w : World) (h : Prts w A n c ps) (hn : n ≤ 100) (hs : ∀ p ∈ ps, p.2.length ≤ 100) :
    Calls Try.prog 104 #[.slice A n c] w fun e w' => ∃ A' c', e = .returned (contV (joinV ps) A' (joinB ps).length c') ∧ w'.ownsRow w.heap.size 5 1 (.slice A' (joinB ps).length c') (joinB ps).length (ints .u8 (joinB ps)) ∧ Below w.heap.size w w' := by
  obtain ⟨i0, hi0, hz0, hz1, hz2⟩ := info_parts byte_info
  have hml : (100000 : Nat) ≤ maxLen := by decide
  have x0 := Blk.new w 109 [.int .u32 0, .slice none 0 0]
  have hb0 : Below w.heap.size w (w.alloc (.cells #[.int .u32 0, .slice none 0 0] 109)) := (Below.refl _ _).alloc (Nat.le_refl _) _
  have x1 := Blk.new (w.alloc (.cells #[.int .u32 0, .slice none 0 0] 109)) 109 [.int .u32 0, .slice none 0 0]
  have hb1 : Below (w.alloc (.cells #[.int .u32 0, .slice none 0 0] 109)).heap.size (w.alloc (.cells #[.int .u32 0, .slice none 0 0] 109)) ((w.alloc (.cells #[.int .u32 0, .slice none 0 0] 109)).alloc (.cells #[.int .u32 0, .slice none 0 0] 109)) := (Below.refl _ _).alloc (Nat.le_refl _) _
  have x0 := x0.below hb1 x0.lt
  have hbel := hb0.trans (hb1.mono hb0.size)
  have hsz : ((w.alloc (.cells #[.int .u32 0, .slice none 0 0] 109)).alloc (.cells #[.int .u32 0, .slice none 0 0] 109)).heap.size = w.heap.size + 2 := by simp
  rw [World.size_alloc] at x1
  obtain ⟨w1, hw1⟩ : ∃ w1, w1 = (w.alloc (.cells #[.int .u32 0, .slice none 0 0] 109)).alloc (.cells #[.int .u32 0, .slice none 0 0] 109) := ⟨_, rfl⟩
  rw [← hw1] at x0 x1 hbel hsz
  have X0 := Lib.hid x0
  have X1 := Lib.hid x1
  have BEL := Lib.hid hbel
  have HSZ := Lib.hid hsz
  have HP := Lib.hid h
  have HLN := Lib.hid h.len
  have HS := Lib.hid hs
  have HN := Lib.hid hn
  have HM := Lib.hid (show n ≤ 9223372036854775807 by omega)
  clear x0 x1 hb0 hb1 hbel hsz h hs hn
  go_enter Try.func104, Try.ntmps104
  go_wp2
  rw [← hw1]
  clear hw1
  go_loopw [8, 5] (fun i p wr => ∃ k : Nat, k ≤ n ∧ i = .int .i64 k ∧ Blk wr w.heap.size 109 [.int .u32 0, .slice none 0 0] ∧ (∃ A1 c1, Blk wr (w.heap.size + 1) 109 [.int .u32 (joinV (ps.take k)), .slice A1 (joinB (ps.take k)).length c1] ∧ wr.ownsRow (w.heap.size + 2) 5 1 (.slice A1 (joinB (ps.take k)).length c1) (joinB (ps.take k)).length (ints .u8 (joinB (ps.take k)))) ∧ Below w.heap.size w wr ∧ w.heap.size + 2 ≤ wr.heap.size) (fun i _ _ => n - (intOf i).toNat)
  case atStart => exact ⟨0, Nat.zero_le _, rfl, X0.out, ⟨none, 0, X1.out, World.ownsRow_nil _ _ _ _⟩, BEL.out, Nat.le_of_eq HSZ.out.symm⟩
  case round =>
    obtain ⟨k, hk, rfl, hx0, ⟨A1, c1, hx1, hO⟩, hB, hsz⟩ := hrel
    have hnM := HM.out
    by_cases hkn : k < n
    · have hki : (k : Int) < (n : Int) := by omega
      have hkl : k < ps.length := by rw [HLN.out]; exact hkn
      obtain ⟨b, Ai, ni, ci, eA, hlt, hcv, hcs, hai⟩ := HP.out.at_ k hkn
      have e0 := (hB.cell (p := ⟨b, k * 2, none⟩) hlt).trans hcv
      have e1 := (hB.cell (p := ⟨b, k * 2 + 1, none⟩) hlt).trans hcs
      have hTL := HS.out (ps.getD k (0, [])) (by rw [List.getD_eq_getElem?_getD, List.getElem?_eq_getElem hkl]; exact List.getElem_mem hkl)
      have RS := Lib.hid (take_snoc hkl ((0, []) : Prt))
      obtain ⟨pk, hpk⟩ : ∃ x, x = ps.getD k (0, []) := ⟨_, rfl⟩
      rw [← hpk] at e0 hai hTL RS
      obtain ⟨v, T⟩ := pk
      dsimp only at e0 hai hTL
      have hJ := joinB_length (ps := ps.take k) (m := 100) fun p hp => HS.out p (List.mem_of_mem_take hp)
      have hJ2 : (ps.take k).length ≤ 100 := by rw [List.length_take]; have := HN.out; omega
      obtain ⟨J, hJe⟩ : ∃ x, x = joinB (ps.take k) := ⟨_, rfl⟩
      rw [← hJe] at hx1 hO hJ
      obtain ⟨m, hm⟩ : ∃ x, x = J.length := ⟨_, rfl⟩
      rw [← hm] at hx1 hO hJ
      have hmm : m ≤ 10000 := by omega
      have hni : ni ≤ 100 := by have := hai.len; omega
      have HJE := Lib.hid hJe
      have HMJ := Lib.hid hm
      have HTL := Lib.hid (show (ints .u8 T).length = ni by rw [ints_length]; exact hai.len)
      have hbA : Below wr.heap.size wr (wr.alloc (.cells #[.int .u32 v, .slice Ai ni ci] 109)) := (Below.refl _ _).alloc (Nat.le_refl _) _
      have z1 := hx1.below hbA hx1.lt
      have z0 := (hx0.below hbA hx0.lt).away (show w.heap.size ≠ w.heap.size + 1 by omega) 0 (.int .u32 v)
      have y1 := Blk.new wr 109 [.int .u32 v, .slice Ai ni ci]
      have hy : wr.heap.size ≠ w.heap.size + 1 := by have := hx1.lt; omega
      have y2 := y1.away hy 0 (.int .u32 v)
      have z2 := z1.set 0 (.int .u32 v)
      have hbW : Below w.heap.size w ((wr.alloc (.cells #[.int .u32 v, .slice Ai ni ci] 109)).setCell ⟨w.heap.size + 1, 0, none⟩ (.int .u32 v)) := (hB.trans (hbA.mono hB.size)).setCell (p := ⟨w.heap.size + 1, 0, none⟩) (Nat.le_succ _) _
      have SQ := Lib.hid ((hai.below hbW).seq)
      have O2 := Lib.hid (owns_other_box (owns_below hO hbA) z1 (by decide) 0 (.int .u32 v))
      have HB2 := Lib.hid (show w.heap.size + 2 ≤ ((wr.alloc (.cells #[.int .u32 v, .slice Ai ni ci] 109)).setCell ⟨w.heap.size + 1, 0, none⟩ (.int .u32 v)).heap.size by simp [World.setCell]; omega)
      have a0 := y1.cell 0
      have a1 := y1.cell 1
      have a2 := z1.cell 0
      have a3 := z1.free 0
      have d1 := y2.cell 1
      have d2 := z2.cell 1
      simp only [List.getElem?_cons_zero, List.getElem?_cons_succ, List.set_cons_zero] at a0 a1 a2 d1 d2
      have Z2 := Lib.hid z2
      have Z0 := Lib.hid z0
      have HBW := Lib.hid hbW
      subst eA
      clear hcv hcs hx0 hx1 hO hB hbA z1 z0 y1 y2 z2 hbW hJ hJ2 hJe hm hai hTL hpk
      go_wp2_with (at_builtin; go_must (refine wpList_behind_g _ _ rfl (.tmp 16) (.tmp 18) _ rfl (w.heap.size + 2) 5 i0 _ 1 Try.underlying31 hi0 hz0 hz1 hz2 rfl A1 m c1 (ints .u8 J) rfl O2.out _ Ai ni ci (ints .u8 T) rfl HTL.out SQ.out (ints_one _ _) (by omega) (by omega) (Below.refl _ _) HB2.out ?_); intro A9 c9 w9 hown9 hb9; have k9 := Z2.out.below hb9 (Nat.lt_succ_self _); have K0 := Lib.hid (Z0.out.below hb9 (Nat.lt_succ_of_lt (Nat.lt_succ_self _))); have b1 := k9.cell 1; have b2 := k9.free 1; simp only [List.getElem?_cons_zero, List.getElem?_cons_succ, List.set_cons_zero] at b1; have K9 := Lib.hid k9; have O9 := Lib.hid hown9; have B9 := Lib.hid hb9; clear hown9 hb9 k9)
      go_roundw
      case rel =>
        refine ⟨k + 1, by omega, by go_num, K0.out.away (show w.heap.size ≠ w.heap.size + 1 by omega) 1 _, ⟨A9, c9, ?_, ?_⟩, ((HBW.out.trans (B9.out.mono (by omega)))).setCell (p := ⟨w.heap.size + 1, 1, none⟩) (Nat.le_succ _) _, ?_⟩
        · rw [RS.out, joinV_snoc, joinB_snoc, ← HJE.out, List.length_append, ← HMJ.out, show T.length = ni by have := HTL.out; rwa [ints_length] at this]
          exact K9.out.set 1 _
        · rw [RS.out, joinB_snoc, ← HJE.out, List.length_append, ← HMJ.out, show T.length = ni by have := HTL.out; rwa [ints_length] at this]
          have o := owns_other_box O9.out K9.out (by decide) 1 (.slice A9 (m + ni) c9)
          unfold ints at o ⊢
          rwa [List.map_append]
        · have h1 := B9.out.size
          have h2 := HB2.out
          simp only [World.setCell] at h1 h2 ⊢
          simp at h1 h2 ⊢
          omega
      all_goals (try case measure => simp [intOf]; omega)
    · obtain rfl : k = n := by omega
      rw [List.take_of_length_le (Nat.le_of_eq HLN.out)] at hx1 hO
      have a0 := hx1.cell 0
      have a1 := hx1.cell 1
      have b0 := hx0.cell 0
      have b1 := hx0.cell 1
      have f0 := hx0.free 0
      have f1 := hx0.free 1
      simp only [List.getElem?_cons_zero, List.getElem?_cons_succ] at a0 a1 b0 b1
      have K0 := Lib.hid hx0
      have O := Lib.hid hO
      have B := Lib.hid hB
      clear hx0 hx1 hO hB
      go_wp2
      have z := K0.out.two (.int .u32 (joinV ps)) (.slice A1 (joinB ps).length c1)
      have z0 := z.cell 0
      have z1 := z.cell 1
      simp only [List.getElem?_cons_zero, List.getElem?_cons_succ] at z0 z1
      have o1 := owns_other_box O.out K0.out (by decide) 0 (.int .u32 (joinV ps))
      have o2 := owns_other_box o1 (K0.out.set 0 (.int .u32 (joinV ps))) (by decide) 1 (.slice A1 (joinB ps).length c1)
      refine bodyPost_ret (v := contV (joinV ps) A1 (joinB ps).length c1) ?_ rfl ⟨A1, c1, rfl, owns_base o2 (by omega), below_two B.out (Nat.le_refl _) _ _⟩
      clear a0 a1 b0 b1 f0 f1
      simp [results, Try.f104, go_sem, z0, z1]

end Go.Proofs.Yteinfkjlcpfeiaa

namespace Go.Proofs.Yteinfkjlcpfeiaa
open Go.RowKit
set_option linter.unusedVariables false

theorem catch_panicking (p q : Option Addr) (u : TypeId) (pv : Value) (older : List PanicEntry) (w : World) :
    CallsD Try.prog 103 #[.pointer p, .pointer q] (.panicking ({ v := .iface u pv, recovered := false } :: older)) w fun e u' w' =>
      e = .returned (.tuple #[]) ∧ u' = .panicking ({ v := .iface u pv, recovered := true } :: older) ∧ w' = w := by
  refine callsD_of_wpS Try.func103 rfl fun c₀ cs hu => ?_
  apply wpS_seq
  apply wpS_region
  simp [wpOpsS, go_sem, recoverD, hu, Try.ntmps103, Exit.thenS]
  refine wpS_cond (t := false) (by simp [Act.eval, Array.replicate]) ?_
  simp only [Bool.false_eq_true, if_false]
  refine wpS_of_wp (wp_skip ?_)
  cases c₀
  simp_all [bodyPostS, results, Try.results103]

set_option maxHeartbeats 1600000 in
theorem catch_idle (G1 G0 : Nat) (A : Option Addr) (n c : Nat) (ps : List Prt) (w : World) (h : Prts w A n c ps) (hn : n ≤ 100) (hs : ∀ p ∈ ps, p.2.length ≤ 100) (x1 : Blk w G1 146 [.slice A n c]) {u0 u1 : Value} (x0 : Blk w G0 109 [u0, u1]) :
    CallsD Try.prog 103 #[.pointer (some ⟨G1, 0, none⟩), .pointer (some ⟨G0, 0, none⟩)] .returning w fun e u' w' => e = .returned (.tuple #[]) ∧ u' = .returning ∧
      ∃ A' c' w2, w2.ownsRow w.heap.size 5 1 (.slice A' (joinB ps).length c') (joinB ps).length (ints .u8 (joinB ps)) ∧ Below w.heap.size w w2 ∧ w' = (w2.setCell ⟨G0, 0, none⟩ (.int .u32 (joinV ps))).setCell ⟨G0, 1, none⟩ (.slice A' (joinB ps).length c') := by
  refine callsD_of_wpS Try.func103 rfl fun c₀ cs hu => ?_
  apply wpS_seq
  apply wpS_region
  simp [wpOpsS, go_sem, recoverD, hu, Try.ntmps103, Exit.thenS]
  refine wpS_cond (t := true) (by simp [Act.eval, Array.replicate]) ?_
  simp only [if_true]
  refine wpS_of_wp ?_
  have c0 := x1.cell 0
  simp only [List.getElem?_cons_zero] at c0
  have J := Lib.hid (joined_any A n c ps w h hn hs)
  have X0 := Lib.hid x0
  have CU := Lib.hid hu
  clear h hn hs x1 x0 hu
  show Code.wp _ _ _ { tmps := #[.pointer (some ⟨G1, 0, none⟩), .pointer (some ⟨G0, 0, none⟩), .nilIface, .bool true, undef, undef], defers := [] } w
  go_wp2_with fail
  refine J.out.mono ?_
  rintro e w2 ⟨A', c', rfl, hown, hb⟩
  have x0 := X0.out.below hb X0.out.lt
  have a0 := x0.cell 0
  have a1 := x0.cell 1
  have f0 := x0.free 0
  have f1 := x0.free 1
  simp only [List.getElem?_cons_zero, List.getElem?_cons_succ] at a0 a1
  have O := Lib.hid hown
  have B := Lib.hid hb
  clear hown hb x0 J
  go_wp2
  have hu := CU.out
  cases c₀
  simp only at hu
  subst hu
  refine ⟨rfl, .returning, rfl, .tuple #[], ?_, rfl, rfl, A', c', w2, O.out, B.out, rfl⟩
  simp [results, Try.results103]

end Go.Proofs.Yteinfkjlcpfeiaa

namespace Go.Proofs.Yteinfkjlcpfeiaa
open Go.RowKit
set_option linter.unusedVariables false

def partO (n : Nat) : Option Txt → Option Prt
  | none => none
  | some T => if partOk n T then some (verOf T, partB T) else none
def heldTo (l : List (Option Txt)) : Nat → Option (List Prt)
  | 0 => some []
  | k + 1 => match heldTo l k with
    | none => none
    | some ps => match partO k (l.getD k none) with
      | none => none
      | some p => if k = 0 ∨ follows p (ps.getD (k - 1) (0, [])) then some (ps ++ [p]) else none
def slotV (l : List (Option Txt)) : Int := match heldTo l l.length with | none => 0 | some ps => joinV ps
def slotB (l : List (Option Txt)) : Txt := match heldTo l l.length with | none => [] | some ps => joinB ps
theorem heldTo_none {l : List (Option Txt)} {k n : Nat} (h : heldTo l k = none) (hn : k ≤ n) : heldTo l n = none := by
  induction n with
  | zero => rw [show k = 0 by omega] at h; exact h
  | succ n ih =>
    rcases Nat.lt_or_ge k (n + 1) with h1 | h1
    · rw [heldTo, ih (by omega)]
    · rw [show n + 1 = k by omega]; exact h
theorem partO_small {n : Nat} {t : Option Txt} {p : Prt} (h : partO n t = some p) : p.2.length ≤ 24 := by
  cases t with
  | none => cases h
  | some T =>
    unfold partO at h
    dsimp only at h
    split at h
    · rename_i hk
      injection h with h
      subst h
      simp only [partOk, Bool.and_eq_true, decide_eq_true_eq] at hk
      show (partB T).length ≤ 24
      unfold partB
      rw [List.length_take]
      omega
    · cases h
theorem heldTo_succ {l : List (Option Txt)} {k : Nat} {ps : List Prt} {p : Prt} (h : heldTo l k = some ps) (hp : partO k (l.getD k none) = some p) (hf : k = 0 ∨ follows p (ps.getD (k - 1) (0, []))) : heldTo l (k + 1) = some (ps ++ [p]) := by
  rw [heldTo, h]
  dsimp only
  rw [hp]
  dsimp only
  rw [if_pos hf]
theorem heldTo_stop {l : List (Option Txt)} {k : Nat} {ps : List Prt} (h : heldTo l k = some ps) (hp : partO k (l.getD k none) = none) : heldTo l (k + 1) = none := by
  rw [heldTo, h]
  dsimp only
  rw [hp]
theorem heldTo_stop2 {l : List (Option Txt)} {k : Nat} {ps : List Prt} {p : Prt} (h : heldTo l k = some ps) (hp : partO k (l.getD k none) = some p) (hf : ¬ (k = 0 ∨ follows p (ps.getD (k - 1) (0, [])))) : heldTo l (k + 1) = none := by
  rw [heldTo, h]
  dsimp only
  rw [hp]
  dsimp only
  rw [if_neg hf]
theorem heldTo_small {l : List (Option Txt)} {k : Nat} {ps : List Prt} (h : heldTo l k = some ps) : ps.length = k ∧ ∀ p ∈ ps, p.2.length ≤ 24 := by
  induction k generalizing ps with
  | zero => injection h with h; subst h; exact ⟨rfl, by simp⟩
  | succ k ih =>
    rw [heldTo] at h
    rcases h1 : heldTo l k with _ | qs
    · rw [h1] at h; cases h
    · rw [h1] at h
      dsimp only at h
      rcases h2 : partO k (l.getD k none) with _ | p
      · rw [h2] at h; cases h
      · rw [h2] at h
        dsimp only at h
        split at h
        · injection h with h
          subst h
          obtain ⟨h3, h4⟩ := ih h1
          refine ⟨by simp [h3], fun q hq => ?_⟩
          rcases List.mem_append.1 hq with hq | hq
          · exact h4 q hq
          · rw [List.mem_singleton] at hq
            subst hq
            exact partO_small h2
        · cases h

/-- A sector as it is read: nil if it can't be. -/
def OptArg (w : World) (A : Option Addr) (n c : Nat) : Option Txt → Prop
  | none => A = none ∧ n = 0 ∧ c = 0
  | some T => Arg w .u8 A n c T ∧ T.length = 32 ∧ ∀ z ∈ T, isByte z
theorem OptArg.below {w w' : World} {A : Option Addr} {n c : Nat} {t : Option Txt} (h : OptArg w A n c t) (hb : Below w.heap.size w w') : OptArg w' A n c t := by
  cases t with
  | none => exact h
  | some T => exact ⟨h.1.below hb, h.2⟩
structure Opts (w : World) (A : Option Addr) (n c : Nat) (l : List (Option Txt)) : Prop where
  len : l.length = n
  cap : n ≤ c
  max : c ≤ maxLen
  at_ : ∀ i, i < n → ∃ b o Ai ni ci, A = some ⟨b, o, none⟩ ∧ b < w.heap.size ∧ w.cell? ⟨b, o + i, none⟩ = some (.slice Ai ni ci) ∧ OptArg w Ai ni ci (l.getD i none)
theorem Opts.below {w w' : World} {A : Option Addr} {n c : Nat} {l : List (Option Txt)} (h : Opts w A n c l) (hb : Below w.heap.size w w') : Opts w' A n c l :=
  ⟨h.len, h.cap, h.max, fun i hi => by
    obtain ⟨b, o, Ai, ni, ci, e, hlt, hc, ha⟩ := h.at_ i hi
    exact ⟨b, o, Ai, ni, ci, e, Nat.lt_of_lt_of_le hlt hb.size, (hb.cell (p := ⟨b, _, none⟩) hlt).trans hc, ha.below hb⟩⟩

theorem arg_part {w : World} {b o c : Nat} {T : Txt} (hT : Arg w .u8 (some ⟨b, o, none⟩) 32 c T) (hm : manyOf T ≤ 24) : Arg w .u8 (some ⟨b, o + 8, none⟩) (partB T).length (c - 8) (partB T) := by
  have hcc := hT.cap
  have hmax := hT.max
  have hl : (partB T).length ≤ 24 := by unfold partB; rw [List.length_take]; omega
  refine ⟨?_, rfl, by omega, by omega⟩
  have h3 := (hT.seq.drop 8).take (manyOf T).toNat
  unfold partB
  unfold ints at h3 ⊢
  rwa [← List.map_drop, ← List.map_take] at h3

/-- What partOf does of a sector as it is read. -/
theorem part_any (k : Nat) (hk : k < 256) (A : Option Addr) (n c : Nat) (t : Option Txt) (w0 w : World) (h : OptArg w0 A n c t) (hbw : Below w0.heap.size w0 w) :
    Calls Try.prog 105 #[.slice A n c, .int .i64 k] w fun e w' =>
      (∃ p Ap cp, partO k t = some p ∧ e = .returned (contV p.1 Ap p.2.length cp) ∧ Arg w0 .u8 Ap p.2.length cp p.2 ∧ Below w.heap.size w w') ∨ (partO k t = none ∧ Panics w e w') := by
  cases t with
  | none =>
    obtain ⟨rfl, rfl, rfl⟩ := h
    exact (part_nil k w).mono fun e w' h => .inr ⟨rfl, h⟩
  | some T =>
    obtain ⟨hT, h32, hby⟩ := h
    obtain rfl : n = 32 := by rw [← hT.len, h32]
    obtain ⟨b, o, rfl, _, _⟩ := hT.seq.at_ (by rw [ints_length]; omega)
    by_cases h1 : verOf T = 0 ∨ 24 < manyOf T
    · refine (part_no1 k b o c T w (hT.below hbw) hby h1).mono fun e w' h => .inr ⟨?_, h⟩
      have : partOk k T = false := by
        rcases h1 with h1 | h1
        · simp [partOk, h1]
        · have : ¬ manyOf T ≤ 24 := by omega
          simp [partOk, this]
      simp [partO, this]
    · have hv : verOf T ≠ 0 := fun h => h1 (.inl h)
      have hm : manyOf T ≤ 24 := by omega
      refine (part_fit k ⟨by omega, by omega⟩ b o c T w (hT.below hbw) hby hv hm).mono fun e w' h => ?_
      rcases h with ⟨h2, rfl, hb⟩ | ⟨h2, hp⟩
      · refine .inl ⟨(verOf T, partB T), some ⟨b, o + 8, none⟩, c - 8, ?_, rfl, arg_part hT hm, hb⟩
        have : partOk k T = true := by simp only [partOk, Bool.and_eq_true, decide_eq_true_eq]; exact ⟨⟨hv, hm⟩, h2⟩
        simp [partO, this]
      · refine .inr ⟨?_, hp⟩
        have : partOk k T = false := by
          simp only [partOk, Bool.and_eq_false_iff, decide_eq_false_iff_not]
          exact .inr h2
        simp [partO, this]

/-- A row of parts of the call's own (their bytes are another's). -/
def OwnPrts (w0 w : World) (base : Nat) (A : Option Addr) (n c : Nat) (ps : List Prt) : Prop :=
  ∃ vs : List Value, w.ownsRow base 109 2 (.slice A n c) n vs ∧ ps.length = n ∧
    ∀ i, i < n → ∃ Ai ni ci, vs[i * 2]? = some (.int .u32 (ps.getD i (0, [])).1) ∧ vs[i * 2 + 1]? = some (.slice Ai ni ci) ∧ Arg w0 .u8 Ai ni ci (ps.getD i (0, [])).2
theorem OwnPrts.nil (w0 w : World) (base : Nat) : OwnPrts w0 w base none 0 0 [] := ⟨[], World.ownsRow_nil _ _ _ _, rfl, fun i hi => by omega⟩
theorem OwnPrts.below {w0 w w' : World} {base : Nat} {A : Option Addr} {n c : Nat} {ps : List Prt} (h : OwnPrts w0 w base A n c ps) (hb : Below w.heap.size w w') : OwnPrts w0 w' base A n c ps := by
  obtain ⟨vs, h1, h2, h3⟩ := h
  exact ⟨vs, owns_below h1 hb, h2, h3⟩
theorem OwnPrts.off {w0 w : World} {base : Nat} {A : Option Addr} {n c : Nat} {ps : List Prt} (h : OwnPrts w0 w base A n c ps) {g : Nat} (hg : g < base) (i : Nat) (u : Value) : OwnPrts w0 (w.setCell ⟨g, i, none⟩ u) base A n c ps := by
  obtain ⟨vs, h1, h2, h3⟩ := h
  exact ⟨vs, owns_under h1 (grownBy_set w g i u) (fun k hk => by injection hk with hk; omega), h2, h3⟩
theorem Prts.of_own {w0 w : World} {base : Nat} {A : Option Addr} {n c : Nat} {ps : List Prt} (h : OwnPrts w0 w base A n c ps) (hb : Below w0.heap.size w0 w) : Prts w A n c ps := by
  obtain ⟨vs, h1, h2, h3⟩ := h
  refine ⟨h2, fun i hi => ?_⟩
  obtain ⟨Ai, ni, ci, hv, hx, ha⟩ := h3 i hi
  obtain ⟨b, e, hlt, hc⟩ := owns_cell h1 hv
  obtain ⟨b', e', _, hcx⟩ := owns_cell h1 hx
  rw [e] at e'
  cases e'
  exact ⟨b, Ai, ni, ci, e, hlt, hc, hcx, ha.below hb⟩
theorem prt_info : (Try.prog.info? 109).map (fun i => (i.zero, i.size, i.bytes)) = some (some (.agg #[.int .u32 0, .slice none 0 0]), 2, 32) := by kernel_rfl

/-- append(parts, one more), its literal laid. -/
theorem wpList_prt (w0 w : World) {ops : Array Oper} {Q : Exit → Act → World → Prop} {a : Act} {rest : List Oper} {o : Oper} (hw : Region.wanted o (yielded ops a.tmps) = true) (s y : Operand)
    (ho : o.op = .call { callee := .builtin .append, args := #[s, y], argTypes := #[146, 146] }) (base : Nat) (A0 : Option Addr) (n c0 : Nat) (ps : List Prt) (hs : a.eval s = .slice A0 n c0) (hown : OwnPrts w0 w base A0 n c0 ps)
    (v : Int) (Ai : Option Addr) (ni ci : Nat) (zs : Txt) (ha : Arg w0 .u8 Ai ni ci zs) (hy : a.eval y = .slice (some ⟨w.heap.size, 0, none⟩) 1 1)
    (h63 : n + 1 ≤ 100000) (hbase : base ≤ w.heap.size)
    (h : ∀ g' c' w', OwnPrts w0 w' base (some ⟨g', 0, none⟩) (n + 1) c' (ps ++ [(v, zs)]) → Below base w w' → wpList Try.prog ops Q rest (a.put o.dst (.slice (some ⟨g', 0, none⟩) (n + 1) c')) w') :
    wpList Try.prog ops Q (o :: rest) a (w.alloc (.cells #[.int .u32 v, .slice Ai ni ci] 109)) := by
  obtain ⟨i, hi, hz, hsize, hby⟩ := info_parts prt_info
  have hml : (100000 : Nat) ≤ maxLen := by decide
  obtain ⟨vs, hv, hl, hin⟩ := hown
  have hblk := Blk.new w 109 [.int .u32 v, .slice Ai ni ci]
  obtain ⟨v', w', hrun, hown', hg, _⟩ := run_app2 (P := Try.prog) (w.alloc (.cells #[.int .u32 v, .slice Ai ni ci] 109)) base 146 o.type 109 i _ 32 Try.underlying146 hi hz hsize hby rfl _ n vs (hv.allocated _) w.heap.size (.int .u32 v) (.slice Ai ni ci) hblk rfl rfl (by omega) (by omega) (by simp; omega)
  obtain ⟨g', c', rfl⟩ := ownsRow_some hown'
  have hvl := hv.1
  have hfin : OwnPrts w0 w' base (some ⟨g', 0, none⟩) (n + 1) c' (ps ++ [(v, zs)]) := by
    refine ⟨_, hown', by simp [hl], fun j hj => ?_⟩
    by_cases e : j = n
    · subst e
      have e2 : (ps ++ [(v, zs)]).getD j (0, []) = (v, zs) := by simp [List.getD_eq_getElem?_getD, hl]
      refine ⟨Ai, ni, ci, ?_, ?_, by rw [e2]; exact ha⟩
      · rw [List.getElem?_append_right (by omega), e2, show j * 2 - vs.length = 0 from by omega]; rfl
      · rw [List.getElem?_append_right (by omega), show j * 2 + 1 - vs.length = 1 from by omega]; rfl
    · obtain ⟨Aj, nj, cj, hv2, hx, hoj⟩ := hin j (by omega)
      have e2 : (ps ++ [(v, zs)]).getD j (0, []) = ps.getD j (0, []) := by simp [List.getD_eq_getElem?_getD, List.getElem?_append_left (show j < ps.length by omega)]
      refine ⟨Aj, nj, cj, ?_, ?_, by rw [e2]; exact hoj⟩
      · rw [List.getElem?_append_left (by omega), e2]; exact hv2
      · rw [List.getElem?_append_left (by omega)]; exact hx
  refine wpList_want hw fun K hK => ?_
  unfold Oper.wp execOp
  simp only [ho, resolve, invoke, builtin, Sem.run_bind, Sem.run_pure, Result.andThen_ok, List.map_toArray, List.map_cons, List.map_nil, hs, hy, hrun]
  exact hK _ _ (h g' c' w' hfin (((Below.refl _ _).alloc hbase _).grown hg (by simp; omega) (fun g e => (hv.lt g e).1)))

end Go.Proofs.Yteinfkjlcpfeiaa
