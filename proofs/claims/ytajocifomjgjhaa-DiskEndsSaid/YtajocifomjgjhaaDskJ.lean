/- Layer 5, package disk: the first write that is found of a sector, the last one first. -/
import Derived.Test.YtajocifomjgjhaaDskI
namespace Go.Proofs.Ytajocifomjgjhaa
open Go.RowKit Go.Shelf
set_option linter.unusedVariables false
attribute [local go_sem] Oper.semAt_some

theorem back_stops (n B0 Bs : Nat) (A : Option Addr) (k c : Nat) (at_ : Nat → Int) (tx : Nat → Option Addr × Nat × Nat) (w : World) (hn : 1 ≤ n) (hk : k ≤ 100000) (hBs : Bs < B0) (hB0 : B0 ≤ w.heap.size) (c1 : w.cell? ⟨Bs, 0, none⟩ = some (.slice A k c)) (hH : Hands w B0 A k at_ tx) :
    SeqStopsK Fence.wide n Try.prog 63 #[.pointer (some ⟨Bs, 0, none⟩)] (encB (k := k) at_ tx) (Below B0) (fun ys => ys = (List.finRange k).reverse) (fun pre => pre <+: (List.finRange k).reverse) k w :=
  fun l J Jx W hW _ _ hY h0 => back1_in n l B0 Bs A k c at_ tx J Jx W hn hk hY hBs ((hW.cell (p := ⟨Bs, 0, none⟩) (by show Bs < _; omega)).trans c1) (hH.below (hW.mono hB0)) h0

theorem writesOf_in (n : Nat) (A : Option Addr) (m c : Nat) (A' : Option Addr) (m' c' : Nat) (t : Int) (w : World) :
    CallsIn Fence.wide n Try.prog 35 #[diskV A m c A' m' c', .int .i64 t] w fun e w' => e = .returned (.func (.func 57) #[] #[.pointer (some ⟨w.heap.size, 0, none⟩), .pointer (some ⟨w.heap.size + 1, 0, none⟩)]) ∧ w' = (w.alloc (.cells #[.slice A m c, .slice A' m' c'] 25)).alloc (.cells #[.int .i64 t] 3) := by
  refine callsIn_of_wp Try.func35 rfl trivial ?_ rfl
  simp only [Try.ntmps35, List.size_toArray, List.length_cons, List.length_nil, Nat.reduceAdd, Nat.reduceSub, Array.replicate_succ, Array.replicate_zero, List.push_toArray, List.append_toArray, List.nil_append, List.cons_append]
  gi_wp2
  go_ret
  exact ⟨rfl, rfl⟩

/-- A round of the wide fence, from within another. -/
theorem roundIn_wide {P : Program} {l l2 m m' : Nat} {f : FuncId} {tmps : Array Value} {assign body : Code} {w : World} {R : Ending → World → Prop} (h : RoundIn Fence.wide m P l f tmps assign body w R) : RoundIn (Fence.wide.inRound l2) m' P l f tmps assign body w R :=
  ⟨trivial, fun c cs _ => h.2 c cs (fun d hd => by cases hd)⟩

/-- The write that is read, if there is one. -/
def foundW (k : Nat) (at_ : Nat → Int) (t : Int) : Option (Fin k) := (List.finRange k).reverse.find? fun x => decide (at_ x.val = t)
theorem foundW_none {k : Nat} {at_ : Nat → Int} {t : Int} (h : ∀ x ∈ (List.finRange k).reverse, at_ x.val ≠ t) : foundW k at_ t = none := by
  unfold foundW
  rw [List.find?_eq_none]
  intro x hx
  rw [decide_eq_true_iff]
  exact h x hx
theorem foundW_some {k : Nat} {at_ : Nat → Int} {t : Int} {pre : List (Fin k)} {x : Fin k} (hp : pre ++ [x] <+: (List.finRange k).reverse) (h : ∀ y ∈ pre, at_ y.val ≠ t) (hx : at_ x.val = t) : foundW k at_ t = some x := by
  unfold foundW
  obtain ⟨r, hr⟩ := hp
  rw [← hr, List.append_assoc, List.find?_append]
  rw [List.find?_eq_none.2 (fun y hy => by rw [decide_eq_true_iff]; exact h y hy)]
  simp [hx]

set_option maxRecDepth 100000 in
set_option maxHeartbeats 2000000 in
theorem writes_first (n Bd Ba : Nat) (A' : Option Addr) (k c' : Nat) (at_ : Nat → Int) (tx : Nat → Option Addr × Nat × Nat) (t : Int) (w : World) (hn : 5 ≤ n) (hk : k ≤ 100000) (hBd : Bd < w.heap.size) (hBa : Ba < w.heap.size)
    (c1 : w.cell? ⟨Bd, 1, none⟩ = some (.slice A' k c')) (c2 : w.cell? ⟨Ba, 0, none⟩ = some (.int .i64 t)) (hH : Hands w w.heap.size A' k at_ tx) :
    FirstOf Fence.wide n Try.prog 57 #[.pointer (some ⟨Bd, 0, none⟩), .pointer (some ⟨Ba, 0, none⟩)] (fun x : Fin k => #[.slice (tx x.val).1 (tx x.val).2.1 (tx x.val).2.2]) (fun x => at_ x.val = t) (foundW k at_ t) w := by
  intro l J Jx W hW hJ hJx hY h0
  have hbY : Below W.heap.size W (W.alloc (.cells #[.func (.yield l) #[] #[]] 90)) := (Below.refl _ _).alloc (Nat.le_refl _) _
  have hsz := hW.size
  have d1 := (hbY.cell (p := ⟨Bd, 1, none⟩) (by show Bd < _; omega)).trans ((hW.cell (p := ⟨Bd, 1, none⟩) hBd).trans c1)
  obtain ⟨W2, hW2⟩ : ∃ W2, W2 = (W.alloc (.cells #[.func (.yield l) #[] #[]] 90)).alloc (.cells #[.slice A' k c'] 23) := ⟨_, rfl⟩
  have hs2 : W2.heap.size = W.heap.size + 2 := by rw [hW2]; simp
  have hb02 : Below W.heap.size W W2 := by rw [hW2]; exact hbY.alloc (by simp) _
  have y2 : W2.cell? ⟨W.heap.size, 0, none⟩ = some (.func (.yield l) #[] #[]) := by
    rw [hW2]
    exact ((Blk.new W 90 [.func (.yield l) #[] #[]]).grown (World.grownBy_alloc _ _ none) (by simp)).cell 0
  have s2 : W2.cell? ⟨W.heap.size + 1, 0, none⟩ = some (.slice A' k c') := by
    have := (Blk.new (W.alloc (.cells #[.func (.yield l) #[] #[]] 90)) 23 [.slice A' k c']).cell 0
    rw [World.size_alloc] at this
    rw [hW2]; exact this
  have a2 : W2.cell? ⟨Ba, 0, none⟩ = some (.int .i64 t) := (hb02.cell (p := ⟨Ba, 0, none⟩) (by show Ba < _; omega)).trans ((hW.cell (p := ⟨Ba, 0, none⟩) hBa).trans c2)
  have hH2 : Hands W2 W2.heap.size A' k at_ tx := by
    have h := (hH.below hW).below (hb02.mono hsz)
    exact ⟨fun i hi => by
      obtain ⟨b, o, e, hlt, h1, h2⟩ := h.cell i hi
      exact ⟨b, o, e, by omega, h1, h2⟩⟩
  have hJ2 : J W2 := by rw [hW2]; exact OwnFrom.alloc (s := ()) hJ _ (OwnFrom.alloc (s := ()) hJ _ h0)
  have HY := Lib.hid hY
  have HJ := Lib.hid hJ
  have HJx := Lib.hid hJx
  clear hY hH c1 c2 h0 hbY hb02
  refine callsIn_of_wp_marks Try.func57 rfl trivial ?_ rfl
  simp only [Try.ntmps57, List.size_toArray, List.length_cons, List.length_nil, Nat.reduceAdd, Nat.reduceSub, Array.replicate_succ, Array.replicate_zero, List.push_toArray, List.append_toArray, List.nil_append, List.cons_append]
  gi_wp2_with (refine ⟨trivial, fun _ => (by omega), ?_⟩; gi_at_call 58; refine (backward_in _ A' k c' _).mono ?_; rintro e w' ⟨rfl, rfl⟩)
  rw [← hW2]
  clear hW2 d1
  refine wpIn_rangeFunc_ownH rfl (by omega) (gf := 63) (lb := #[.pointer (some ⟨W.heap.size + 1, 0, none⟩)]) rfl trivial (enters_of Try.func63 (by kernel_rfl) rfl)
    (back_stops (n - 1) W2.heap.size (W.heap.size + 1) A' k c' at_ tx W2 (by omega) hk (by omega) (Nat.le_refl _) s2 hH2) (fun h k => h.trans k) (belowK_b (Nat.le_refl _)) (Below.refl _ _) (fun _ => rfl)
    (fun pre W' => (J W' ∧ ∀ y ∈ pre, at_ y.val ≠ t) ∧ Below W2.heap.size W2 W')
    (fun c pre W' => c = .ret ∧ ∃ q x, pre = q ++ [x] ∧ (∀ y ∈ q, at_ y.val ≠ t) ∧ at_ x.val = t ∧ Jx x W')
    (OwnFrom.and (fun s X Y row hs hg hr => ⟨(hJ.of (by omega)) () X Y row hs.1 hg hr, hs.2⟩) (ownFrom_below (Nat.le_refl _) (Nat.le_refl _)))
    (fun c s X Y row hs hg hr => by obtain ⟨e, q, x, h1, h2, h3, h4⟩ := hs; exact ⟨e, q, x, h1, h2, h3, ((hJx x).of (by omega)) () X Y row h4 hg hr⟩)
    ⟨⟨hJ2, by simp⟩, Below.refl _ _⟩
    (fun x a' W' => ∃ Bx, Blk W' Bx 63 [.int .i64 (at_ x.val), .slice (tx x.val).1 (tx x.val).2.1 (tx x.val).2.2] ∧ a' = { tmps := #[.func (.yield l) #[] #[], .pointer (some ⟨Bd, 0, none⟩), .pointer (some ⟨Ba, 0, none⟩), .pointer (some ⟨W.heap.size, 0, none⟩), undef, .pointer (some ⟨Bx, 0, none⟩), .pointer (some ⟨Bd, 1, none⟩), .slice A' k c',
      .func (.func 63) #[] #[.pointer (some ⟨W.heap.size + 1, 0, none⟩)], .int .i64 ((x.val : Nat) : Int), .agg #[.int .i64 (at_ x.val), .slice (tx x.val).1 (tx x.val).2.1 (tx x.val).2.2], undef, undef, undef, undef, undef, undef, undef, undef, undef, undef, undef], defers := [] })
    (fun x a' s X Y row hs hg hr => by
      obtain ⟨Bx, h1, h2⟩ := hs
      refine ⟨Bx, h1.grown hg (fun e => ?_), h2⟩
      obtain ⟨_, o, ho, hc⟩ := hr Bx e.symm
      unfold Blk at h1
      rw [h1] at ho
      cases ho
      cases hc) ?assign ?body ?done ?stop
  case assign =>
    rintro l2 pre x W' K ⟨⟨hJ', hp⟩, hB⟩ hK
    have KK := Lib.hid hK
    have J' := Lib.hid hJ'
    have P' := Lib.hid hp
    have BB := Lib.hid hB
    clear hK hJ' hp hB
    unfold encB
    gi_wp2
    exact KK.out _ _ ((KeepsOthers.alloc _ _).from _) ((Below.refl _ W').alloc BB.out.size _) ⟨⟨OwnFrom.alloc (s := ()) HJ.out _ J'.out, P'.out⟩, BB.out.alloc BB.out.size _⟩ ⟨W'.heap.size, Blk.new W' 63 _, rfl⟩
  case body =>
    rintro l2 pre x a' W' hl ⟨r, hr⟩ ⟨⟨hJ', hp⟩, hB⟩ ⟨Bx, hx, rfl⟩ hlt
    have p0 := hx.cell 0
    have p1 := hx.cell 1
    simp only [List.getElem?_cons_zero, List.getElem?_cons_succ] at p0 p1
    have y3 := (hB.cell (p := ⟨W.heap.size, 0, none⟩) (by show W.heap.size < _; omega)).trans y2
    have a3 := (hB.cell (p := ⟨Ba, 0, none⟩) (by show Ba < _; omega)).trans a2
    by_cases hxt : at_ x.val = t
    · obtain ⟨fn, tmps, assign, body, hy, hR⟩ := HY.out x W' hxt hJ'
      have HR := Lib.hid hR
      have P' := Lib.hid hp
      have BB := Lib.hid hB
      have HX := Lib.hid hxt
      have hq : (at_ x.val == t) = true := beq_iff_eq.2 hxt
      clear hR hp hB hJ' hr hx hxt
      gi_wp2
      refine ⟨fun _ => (by omega), (roundIn_wide HR.out).mono ?_⟩
      rintro e W3 ⟨rfl, hJ3, hk3⟩
      have J3 := Lib.hid hJ3
      have K3 := Lib.hid hk3
      clear hJ3 hk3 hy
      gi_wp2
      exact ⟨⟨K3.out.size, fun k o hk => K3.out.same k o (by omega)⟩, rfl, pre, x, rfl, P'.out, HX.out, J3.out⟩
    · have P' := Lib.hid hp
      have BB := Lib.hid hB
      have J' := Lib.hid hJ'
      have HX := Lib.hid hxt
      have hq : (at_ x.val == t) = false := beq_eq_false_iff_ne.2 hxt
      clear hp hB hJ' hr hx hxt
      gi_wp2
      refine ⟨fun _ h => (by cases h), ?_⟩
      gi_wp2
      exact ⟨KeepsFrom.refl _ _, Below.refl _ _, ⟨J'.out, fun y hy => by
        rcases List.mem_append.1 hy with hy | hy
        · exact P'.out y hy
        · rw [List.mem_singleton] at hy; subst hy; exact HX.out⟩, BB.out⟩
  case done =>
    rintro D ys W' hD rfl ⟨⟨hJ', hp⟩, hB⟩ hK
    have J' := Lib.hid hJ'
    have HK := Lib.hid hK
    have FN := Lib.hid (foundW_none hp)
    clear hJ' hp hB hK
    gi_wp2
    refine ⟨by simp, .inl ⟨_, _, rfl, run_takeDeferred HK.out, ?_⟩⟩
    exact ⟨_, results_none rfl _ _ _, ⟨_, rfl⟩, .inl ⟨FN.out, OwnFrom.putObj (s := ()) HJ.out _ J'.out (by omega) HK.out rfl⟩⟩
  case stop =>
    rintro D c pre W' hD hpre ⟨rfl, q, x, rfl, hq, hx, hJ'⟩ hK
    have J' := Lib.hid hJ'
    have HK := Lib.hid hK
    have FN := Lib.hid (foundW_some hpre hq hx)
    clear hJ' hpre hq hx hK
    gi_wp2
    refine ⟨by simp, .inl ⟨_, _, rfl, run_takeDeferred HK.out, ?_⟩⟩
    exact ⟨_, results_none rfl _ _ _, ⟨_, rfl⟩, .inr ⟨x, FN.out, OwnFrom.putObj (s := ()) (HJx.out x) _ J'.out (by omega) HK.out rfl⟩⟩

end Go.Proofs.Ytajocifomjgjhaa
