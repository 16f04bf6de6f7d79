/- Layer 11, RecTable: the walk, given RecDoes. -/
import Derived.Test.YthoflogegopikaaRecA
import Derived.Test.YthoflogegopikaaRecTW
namespace Go.Proofs.Ythoflogegopikaa
open Go.RowKit
set_option linter.unusedVariables false

/-- The heads of texts, as they stand in a row. -/
def Heads (w : World) (l : List Txt) (vs : List Value) : Prop := vs.length = l.length ∧ ∀ i v, vs[i]? = some v → ∃ Ai ni ci, v = .slice Ai ni ci ∧ Arg w .u8 Ai ni ci (l.getD i [])
section
variable {w w' : World} {l m : List Txt} {vs us : List Value}
theorem Heads.one (h : Heads w l vs) : ∀ v ∈ vs, v.oneCell' = true := fun v hv => by
  obtain ⟨i, hi⟩ := List.getElem?_of_mem hv
  obtain ⟨_, _, _, rfl, _⟩ := h.2 i v hi
  rfl
theorem Heads.below (h : Heads w l vs) (hb : Below w.heap.size w w') : Heads w' l vs := ⟨h.1, fun i v hv => by
  obtain ⟨Ai, ni, ci, e, ha⟩ := h.2 i v hv
  exact ⟨Ai, ni, ci, e, ha.below hb⟩⟩
theorem Heads.app (h : Heads w l vs) (k : Heads w m us) : Heads w (l ++ m) (vs ++ us) := ⟨by rw [List.length_append, List.length_append, h.1, k.1], fun i v hv => by
  rcases Nat.lt_or_ge i vs.length with hi | hi
  · rw [List.getElem?_append_left hi] at hv
    have e : (l ++ m).getD i [] = l.getD i [] := by rw [List.getD_eq_getElem?_getD, List.getElem?_append_left (by rw [← h.1]; exact hi), List.getD_eq_getElem?_getD]
    rw [e]
    exact h.2 i v hv
  · rw [List.getElem?_append_right hi] at hv
    have e : (l ++ m).getD i [] = m.getD (i - vs.length) [] := by rw [List.getD_eq_getElem?_getD, List.getElem?_append_right (by rw [← h.1]; exact hi), List.getD_eq_getElem?_getD, h.1]
    rw [e]
    exact k.2 (i - vs.length) v hv⟩
theorem heads_of {A : Option Addr} {n c : Nat} (h : Texts w A n c l) : ∃ vs, Seq w w.heap.size A vs ∧ Heads w l vs := by
  have key : ∀ i, ∃ v : Value, i < n → ∃ b o Ai ni ci, A = some ⟨b, o, none⟩ ∧ b < w.heap.size ∧ v = .slice Ai ni ci ∧ w.cell? ⟨b, o + i, none⟩ = some v ∧ Arg w .u8 Ai ni ci (l.getD i []) := fun i => by
    by_cases hi : i < n
    · obtain ⟨b, o, Ai, ni, ci, e, hlt, hc, ha⟩ := h.at_ i hi
      exact ⟨.slice Ai ni ci, fun _ => ⟨b, o, Ai, ni, ci, e, hlt, rfl, hc, ha⟩⟩
    · exact ⟨.bool false, fun k => absurd k hi⟩
  have hat : ∀ i v, ((List.range n).map fun i => (key i).choose)[i]? = some v → i < n ∧ v = (key i).choose := fun i v hv => by
    rcases Nat.lt_or_ge i n with hi | hi
    · rw [List.getElem?_map, List.getElem?_range hi] at hv
      exact ⟨hi, (Option.some.inj hv).symm⟩
    · rw [List.getElem?_eq_none (by simpa using hi)] at hv
      cases hv
  refine ⟨(List.range n).map fun i => (key i).choose, fun i v hv => ?_, by rw [List.length_map, List.length_range]; exact h.len.symm, fun i v hv => ?_⟩
  · obtain ⟨hi, rfl⟩ := hat i v hv
    obtain ⟨b, o, Ai, ni, ci, e, hlt, _, hc, _⟩ := (key i).choose_spec hi
    exact ⟨b, o, e, hlt, hc⟩
  · obtain ⟨hi, rfl⟩ := hat i v hv
    obtain ⟨b, o, Ai, ni, ci, e, hlt, hv, _, ha⟩ := (key i).choose_spec hi
    exact ⟨Ai, ni, ci, hv, ha⟩
theorem Heads.texts {base : Nat} {A : Option Addr} {n c : Nat} (h : Heads w l vs) (hown : w.ownsRow base 26 1 (.slice A n c) n vs) (hb : ∀ zs ∈ l, ∀ z ∈ zs, isByte z) : Texts w A n c l := by
  have hl := hown.1
  refine ⟨by rw [← h.1, hl, Nat.mul_one], ?_, ?_, hb, fun i hi => ?_⟩
  · rcases hown.2 with ⟨e, h0⟩ | ⟨g, cap, cur, e, _, _, h1, h2, _⟩ <;> cases e
    · exact Nat.le_refl _
    · exact h1
  · rcases hown.2 with ⟨e, h0⟩ | ⟨g, cap, cur, e, _, _, h1, h2, _⟩ <;> cases e
    · decide
    · exact h2
  · have hv : vs[i]? = some vs[i] := List.getElem?_eq_getElem (by omega)
    obtain ⟨Ai, ni, ci, e1, ha⟩ := h.2 i _ hv
    obtain ⟨b, o, e, hlt, hc⟩ := Seq.own hown i _ hv
    rw [e1] at hc
    exact ⟨b, o, Ai, ni, ci, e, hlt, hc, ha⟩
end
/-- Records of the call's own stay where a row of heads grows. -/
theorem OwnRecs.beside {w w' : World} {base base' : Nat} {A A' : Option Addr} {n c n' c' : Nat} {L : List Rc} {vs : List Value} (h : OwnRecs w base A n c L) (h' : w.ownsRow base' 26 1 (.slice A' n' c') n' vs) (hg : w.grownBy w' (Value.slice A' n' c').ownBlock) : OwnRecs w' base A n c L :=
  ⟨h.1.kept hg (owns_other2 (by decide) h.1 h'), h.2.1, h.2.2⟩
theorem short_app {l m : List Txt} {n k : Nat} (hl : l.length = n) (h1 : ShortT l n) (h2 : ShortT m k) : ShortT (l ++ m) (n + k) := fun y hy => by
  rcases Nat.lt_or_ge y n with h | h
  · rw [List.getD_eq_getElem?_getD, List.getElem?_append_left (by omega), ← List.getD_eq_getElem?_getD]
    exact h1 y h
  · rw [List.getD_eq_getElem?_getD, List.getElem?_append_right (by omega), ← List.getD_eq_getElem?_getD, hl]
    exact h2 (y - n) (by omega)
theorem short_notes (x : List Rc) : ShortT (x.map recT) x.length := fun y hy => by
  rw [List.getD_eq_getElem?_getD, List.getElem?_map, List.getElem?_eq_getElem hy]
  show (recT x[y]).length ≤ 100
  rw [recT_length]
  decide
theorem tab_app (l m : List Txt) : tabR (l ++ m) = (tabR l).bind fun x => tabTo x m := tabTo_app [] l m
theorem tabTo_step11 (t : List Rc) (l : List Txt) {k : Nat} (hk : k < l.length) {x : List Rc} (h : tabTo t (l.take k) = some x) : tabTo t (l.take (k + 1)) = putR x (l.getD k []) := by
  rw [List.take_succ_eq_append_getElem hk, tabTo_app, h]
  have e : l.getD k [] = l[k] := by simp [List.getD_eq_getElem?_getD, hk]
  rw [e]
  show (putR x l[k]).bind (fun y => tabTo y []) = _
  cases putR x l[k] <;> rfl
theorem tabTo_none11 (t : List Rc) (l : List Txt) (k : Nat) (h : tabTo t (l.take k) = none) : tabTo t l = none := by
  rw [← List.take_append_drop k l, tabTo_app, h]
  rfl

set_option maxRecDepth 100000 in
set_option maxHeartbeats 6400000 in
theorem rectable_of (dz : RecDoes) (Al : Option Addr) (nl cl : Nat) (l : List Txt) (Am : Option Addr) (nm cm : Nat) (m : List Txt) (w : World) (hl : Texts w Al nl cl l) (hm : Texts w Am nm cm m) :
    Calls Try.prog 7 #[.slice Al nl cl, .slice Am nm cm] w fun e w' => e = .returned (.bool true) ∧ Below w.heap.size w w' := by
  obtain ⟨i1, hi1, hy0, hy1, hy2⟩ := info_parts texts_info
  have AL := Lib.hid (fun wx => alive11_any dz wx)
  have GL := Lib.hid (fun wx (h : Texts wx Al nl cl l) => rgreat11_any Al nl cl l wx h)
  have GM := Lib.hid (fun wx (h : Texts wx Am nm cm m) => rgreat11_any Am nm cm m wx h)
  unfold GreatOut at GL GM
  have L := Lib.hid hl
  have M := Lib.hid hm
  have L0 := Lib.hid hl
  have M0 := Lib.hid hm
  have B := Lib.hid (Below.refl w.heap.size w)
  clear hl hm
  go_enter Try.func7, Try.ntmps7
  go_wp2_with fail
  refine (AL.out _).mono ?_
  rintro e w1 ⟨rfl, hb⟩
  have L := Lib.hid (L.out.below hb)
  have M := Lib.hid (M.out.below hb)
  have B := Lib.hid (B.out.trans (hb.mono B.out.size))
  clear hb
  go_wp2_with fail
  refine (GL.out _ L.out).mono ?_
  rintro e w2 ⟨g, rfl, hg, rfl⟩
  cases g with
  | true =>
    clear hg
    go_wp2
    go_ret
    exact ⟨rfl, B.out⟩
  | false =>
    obtain ⟨hn, hsh⟩ := hg rfl
    have HN := Lib.hid hn
    have HSH := Lib.hid hsh
    clear hg hn hsh
    go_wp2_with fail
    refine (GM.out _ M.out).mono ?_
    rintro e w3 ⟨g, rfl, hg, rfl⟩
    cases g with
    | true =>
      clear hg
      go_wp2
      go_ret
      exact ⟨rfl, B.out⟩
    | false =>
      obtain ⟨hn, hsh⟩ := hg rfl
      have HN2 := Lib.hid hn
      have HSH2 := Lib.hid hsh
      obtain ⟨vl, hvl, hhl⟩ := heads_of L.out
      obtain ⟨vm, hvm, hhm⟩ := heads_of M.out
      have ll := L.out.len
      have lm := M.out.len
      have SL := Lib.hid hvl
      have HL := Lib.hid hhl
      have SM := Lib.hid hvm
      have HM := Lib.hid hhm
      have k1 : nl ≤ maxLen := by have := HN.out; unfold maxLen; omega
      have k2 : nl * 24 ≤ 140737488355328 := by have := HN.out; omega
      have k3 : nl + nm ≤ maxLen := by have := HN.out; have := HN2.out; unfold maxLen; omega
      have k4 : (nl + nm) * 24 ≤ 140737488355328 := by have := HN.out; have := HN2.out; omega
      have LL := Lib.hid ll
      have LM := Lib.hid lm
      clear hg hn hsh hvl hhl hvm hhm AL GL GM ll lm
      go_wp2_with (first
        | (at_builtin; refine wpList_dup_g w3 rfl (.tmp 35) (.tmp 36) _ rfl 26 i1 _ 24 Try.underlying33 hi1 hy0 hy1 hy2 rfl rfl Al nl cl vl rfl (HL.out.1.trans LL.out) SL.out HL.out.one k1 k2 ?_; intro A4 c4 w4 hO4 hb4; have O4 := Lib.hid hO4; have B4 := Lib.hid hb4; clear hO4 hb4)
        | (at_builtin; refine wpList_behind_g w3 w4 rfl (.tmp 37) (.tmp 38) _ rfl w3.heap.size 26 i1 _ 24 Try.underlying33 hi1 hy0 hy1 hy2 rfl A4 nl c4 vl rfl O4.out w4.heap.size Am nm cm vm rfl (HM.out.1.trans LM.out) ((SM.out.below B4.out).more B4.out.size) HM.out.one k3 k4 B4.out (Nat.le_refl _) ?_; intro A5 c5 w5 hO5 hb5; have O5 := Lib.hid hO5; have B5 := Lib.hid hb5; clear hO5 hb5)
        | fail)
      have hb := B5.out
      have TA := Lib.hid (((HL.out.app HM.out).below hb).texts O5.out (fun zs hz => (List.mem_append.1 hz).elim (L.out.byte zs) (M.out.byte zs)))
      have L := Lib.hid (L.out.below hb)
      have M := Lib.hid (M.out.below hb)
      have B := Lib.hid (B.out.trans (hb.mono B.out.size))
      clear hb O4 B4 O5 B5 SL SM HL k1 k2 k3 k4
      have C1 := Lib.hid (fun wx (h : Texts wx Al nl cl l) => dz.table Al nl cl l wx h (by have := HN.out; omega) HSH.out)
      have SHA := Lib.hid (short_app LL.out HSH.out HSH2.out)
      have C2 := Lib.hid (fun (A : Option Addr) (c : Nat) wx (h : Texts wx A (nl + nm) c (l ++ m)) => dz.table A (nl + nm) c (l ++ m) wx h (by have := HN.out; have := HN2.out; omega) SHA.out)
      unfold PutOut at C1 C2
      rw [tab_app] at C2
      have BL := Lib.hid L.out.byte
      have TB := Lib.hid (fun x (h : tabR l = some x) => tabTo_may (t := []) (by trivial) h)
      have TC := Lib.hid (fun x (h : tabR l = some x) => tabTo_all (t := []) (fun r hr => by cases hr) L.out.byte h)
      cases hx : tabR l with
      | none =>
        rw [hx] at C1 C2
        change Hid (∀ wx, Texts wx Al nl cl l → Calls Try.prog 11 #[.slice Al nl cl] wx fun e w' => ∃ A' c', e = .returned (.tuple #[.slice A' 0 c', .int .i64 110]) ∧ OwnRecs w' wx.heap.size A' 0 c' [] ∧ Below wx.heap.size wx w') at C1
        change Hid (∀ (A : Option Addr) (c : Nat) wx, Texts wx A (nl + nm) c (l ++ m) → Calls Try.prog 11 #[.slice A (nl + nm) c] wx fun e w' => ∃ A' c', e = .returned (.tuple #[.slice A' 0 c', .int .i64 110]) ∧ OwnRecs w' wx.heap.size A' 0 c' [] ∧ Below wx.heap.size wx w') at C2
        clear hx
        go_wp2_with fail
        refine (C1.out _ L.out).mono ?_
        rintro e w2 ⟨Ax, cx, rfl, hO, hb⟩
        have L := Lib.hid (L.out.below hb)
        have M := Lib.hid (M.out.below hb)
        have B := Lib.hid (B.out.trans (hb.mono B.out.size))
        have TA := Lib.hid (TA.out.below hb)
        clear hb hO
        go_wp2_with fail
        refine (C2.out A5 c5 _ TA.out).mono ?_
        rintro e w3 ⟨Ay, cy, rfl, hO, hb⟩
        have L := Lib.hid (L.out.below hb)
        have M := Lib.hid (M.out.below hb)
        have B := Lib.hid (B.out.trans (hb.mono B.out.size))
        have TA := Lib.hid (TA.out.below hb)
        clear hb hO
        go_wp2
        go_ret
        exact ⟨rfl, B.out⟩
      | some x =>
        have MX := Lib.hid (TB.out x hx)
        have AX := Lib.hid (TC.out x hx)
        have x3 : x.length ≤ 3 := tab_three MX.out
        have HX3 := Lib.hid x3
        rw [hx] at C1 C2
        change Hid (∀ (A : Option Addr) (c : Nat) wx, Texts wx A (nl + nm) c (l ++ m) → Calls Try.prog 11 #[.slice A (nl + nm) c] wx fun e w' => ∃ A' c', e = .returned (.tuple #[.slice A' (ansL (tabTo x m)).length c', .int .i64 (ansE (tabTo x m))]) ∧ OwnRecs w' wx.heap.size A' (ansL (tabTo x m)).length c' (ansL (tabTo x m)) ∧ Below wx.heap.size wx w') at C2
        obtain ⟨nx, hnx⟩ : ∃ k, k = x.length := ⟨_, rfl⟩
        have HNX := Lib.hid hnx
        have C3 := Lib.hid (fun (A : Option Addr) (c : Nat) wx (h : Recs wx A nx c x) => (show Calls Try.prog 23 #[.slice A nx c] wx (fun e w' => ∃ A' c', e = .returned (.tuple #[.slice A' nx c', .int .i64 0]) ∧ OwnTexts w' wx.heap.size A' nx c' (x.map recT) ∧ Below wx.heap.size wx w') from by
          have g := dz.notes A nx c x wx h (by omega)
          unfold NotesOut at g
          rw [show rnL x = x.map recT from if_pos MX.out, show rnE x = 0 from if_pos MX.out, List.length_map, ← hnx] at g
          exact g))
        have C4 := Lib.hid (fun (A : Option Addr) (c : Nat) wx (h : Texts wx A nx c (x.map recT)) => (show Calls Try.prog 11 #[.slice A nx c] wx (fun e w' => ∃ A' c', e = .returned (.tuple #[.slice A' nx c', .int .i64 0]) ∧ OwnRecs w' wx.heap.size A' nx c' x ∧ Below wx.heap.size wx w') from by
          have g := dz.table A nx c (x.map recT) wx h (by omega) (by rw [hnx]; exact short_notes x)
          unfold PutOut at g
          rw [tab_back MX.out AX.out] at g
          change Calls Try.prog 11 #[.slice A nx c] wx (fun e w' => ∃ A' c', e = .returned (.tuple #[.slice A' x.length c', .int .i64 0]) ∧ OwnRecs w' wx.heap.size A' x.length c' x ∧ Below wx.heap.size wx w') at g
          rw [← hnx] at g
          exact g))
        have C5 := Lib.hid (fun (A : Option Addr) (c : Nat) wx (h : Texts wx A (nx + nm) c (x.map recT ++ m)) => (show Calls Try.prog 11 #[.slice A (nx + nm) c] wx (fun e w' => ∃ A' c', e = .returned (.tuple #[.slice A' (ansL (tabTo x m)).length c', .int .i64 (ansE (tabTo x m))]) ∧ OwnRecs w' wx.heap.size A' (ansL (tabTo x m)).length c' (ansL (tabTo x m)) ∧ Below wx.heap.size wx w') from by
          have g := dz.table A (nx + nm) c (x.map recT ++ m) wx h (by have := HN2.out; omega) (short_app (by rw [List.length_map, hnx]) (by rw [hnx]; exact short_notes x) HSH2.out)
          unfold PutOut at g
          rw [tab_app, tab_back MX.out AX.out] at g
          exact g))
        change Hid (∀ wx, Texts wx Al nl cl l → Calls Try.prog 11 #[.slice Al nl cl] wx fun e w' => ∃ A' c', e = .returned (.tuple #[.slice A' x.length c', .int .i64 0]) ∧ OwnRecs w' wx.heap.size A' x.length c' x ∧ Below wx.heap.size wx w') at C1
        rw [← hnx] at C1 x3
        have k3 : nx + nm ≤ maxLen := by have := HN2.out; unfold maxLen; omega
        have k4 : (nx + nm) * 24 ≤ 140737488355328 := by have := HN2.out; omega
        clear hx hnx
        go_wp2_with fail
        refine (C1.out _ L.out).mono ?_
        rintro e w4 ⟨Ax, cx, rfl, hO, hb⟩
        have L := Lib.hid (L.out.below hb)
        have M := Lib.hid (M.out.below hb)
        have B := Lib.hid (B.out.trans (hb.mono B.out.size))
        have TA := Lib.hid (TA.out.below hb)
        have OX := Lib.hid (hO)
        clear hb hO
        have WZ := Lib.hid B.out.size
        go_wp2_with fail
        refine (C3.out Ax cx _ (Recs.of_own OX.out)).mono ?_
        rintro e w5 ⟨An, cn, rfl, hO, hb⟩
        have L := Lib.hid (L.out.below hb)
        have M := Lib.hid (M.out.below hb)
        have B := Lib.hid (B.out.trans (hb.mono B.out.size))
        have TA := Lib.hid (TA.out.below hb)
        have OX := Lib.hid (OX.out.below hb)
        have ON := Lib.hid (hO.lower WZ.out)
        clear hb hO
        go_wp2_with fail
        refine (C4.out An cn _ (Texts.of_own ON.out)).mono ?_
        rintro e w6 ⟨Ag, cg, rfl, hO, hb⟩
        have L := Lib.hid (L.out.below hb)
        have M := Lib.hid (M.out.below hb)
        have B := Lib.hid (B.out.trans (hb.mono B.out.size))
        have TA := Lib.hid (TA.out.below hb)
        have OX := Lib.hid (OX.out.below hb)
        have ON := Lib.hid (ON.out.below hb)
        have OG := Lib.hid (hO)
        clear hb hO
        go_wp2_with fail
        refine (same11_yes Ag nx cg x Ax nx cx _ (Recs.of_own OG.out) (Recs.of_own OX.out)).mono ?_
        rintro e w7 ⟨rfl, hb⟩
        have L := Lib.hid (L.out.below hb)
        have M := Lib.hid (M.out.below hb)
        have B := Lib.hid (B.out.trans (hb.mono B.out.size))
        have TA := Lib.hid (TA.out.below hb)
        have OX := Lib.hid (OX.out.below hb)
        have ON := Lib.hid (ON.out.below hb)
        have OG := Lib.hid (OG.out.below hb)
        clear hb
        clear OG C4 C3 C1
        have ST := Lib.hid (fun k (hk : k < nm) y => tabTo_step11 x m (k := k) (by rw [LM.out]; exact hk) (x := y))
        have NO := Lib.hid (tabTo_none11 x m)
        have ALL := Lib.hid (show tabTo x (m.take nm) = tabTo x m by rw [← LM.out, List.take_length])
        have MAY := Lib.hid (fun k y (h : tabTo x (m.take k) = some y) => tabTo_may MX.out h)
        have TX0 := Lib.hid (show tabTo x (m.take 0) = some x from rfl)
        have BYM := Lib.hid (fun k => M.out.byte_at k)
        obtain ⟨Z, hZ⟩ : ∃ Z, Z = tabTo x m := ⟨_, rfl⟩
        rw [← hZ] at C2 C5 NO ALL
        clear hZ
        have PU := Lib.hid (fun (A : Option Addr) (c : Nat) (y : List Rc) (A' : Option Addr) (n' c' : Nat) (bt : Txt) wx (hy : y.length ≤ 3) (h : Recs wx A y.length c y) (h' : Arg wx .u8 A' n' c' bt) (hb : ∀ z ∈ bt, isByte z) (h2 : n' ≤ 100) => dz.put A y.length c y A' n' c' bt wx h (by omega) h' hb h2)
        unfold PutOut at PU
        cases Z with
        | some z =>
          obtain ⟨nz, hnz⟩ : ∃ k, k = z.length := ⟨_, rfl⟩
          change Hid (∀ (A : Option Addr) (c : Nat) wx, Texts wx A (nl + nm) c (l ++ m) → Calls Try.prog 11 #[.slice A (nl + nm) c] wx fun e w' => ∃ A' c', e = .returned (.tuple #[.slice A' z.length c', .int .i64 0]) ∧ OwnRecs w' wx.heap.size A' z.length c' z ∧ Below wx.heap.size wx w') at C2
          change Hid (∀ (A : Option Addr) (c : Nat) wx, Texts wx A (nx + nm) c (x.map recT ++ m) → Calls Try.prog 11 #[.slice A (nx + nm) c] wx fun e w' => ∃ A' c', e = .returned (.tuple #[.slice A' z.length c', .int .i64 0]) ∧ OwnRecs w' wx.heap.size A' z.length c' z ∧ Below wx.heap.size wx w') at C5
          rw [← hnz] at C2 C5
          have HNZ := Lib.hid hnz
          clear hnz
          go_wp2_with fail
          refine (C2.out A5 c5 _ TA.out).mono ?_
          rintro e w8 ⟨Ab, cb, rfl, hO, hb⟩
          have L := Lib.hid (L.out.below hb)
          have M := Lib.hid (M.out.below hb)
          have B := Lib.hid (B.out.trans (hb.mono B.out.size))
          have TA := Lib.hid (TA.out.below hb)
          have OX := Lib.hid (OX.out.below hb)
          have ON := Lib.hid (ON.out.below hb)
          have OB := Lib.hid (hO)
          clear hb hO TA
          obtain ⟨vn, hrow, hvl, hvb, hvi⟩ := ON.out
          have HR := Lib.hid hrow
          have hh : Heads w8 (x.map recT) vn := ⟨by rw [hvl]; have := hrow.1; omega, fun i v hv => by
            have hi : i < nx := by
              rcases Nat.lt_or_ge i vn.length with k | k
              · have := hrow.1; omega
              · rw [List.getElem?_eq_none k] at hv; cases hv
            obtain ⟨Ai, ni, ci, hv2, ho⟩ := hvi i hi
            rw [hv2] at hv
            exact ⟨Ai, ni, ci, (Option.some.inj hv).symm, Arg.own ho⟩⟩
          have HH := Lib.hid (fun (w' : World) (hg : w8.grownBy w' (Value.slice An nx cn).ownBlock) => (show Heads w' (x.map recT) vn from ⟨hh.1, fun i v hv => by
            have hi : i < nx := by
              rcases Nat.lt_or_ge i vn.length with k | k
              · have := hrow.1; omega
              · rw [List.getElem?_eq_none k] at hv; cases hv
            obtain ⟨Ai, ni, ci, hv2, ho⟩ := hvi i hi
            rw [hv2] at hv
            exact ⟨Ai, ni, ci, (Option.some.inj hv).symm, Arg.own (ho.kept hg (owns_other2 (by decide) ho hrow))⟩⟩))
          have NB := Lib.hid (show ∀ zs ∈ x.map recT, ∀ z ∈ zs, isByte z from hvb)
          have BN := Lib.hid (show ∀ g, (Value.slice An nx cn).ownBlock = some g → w.heap.size ≤ g from fun g hg => (hrow.lt g hg).1)
          have SQ := Lib.hid (heads_of M.out)
          obtain ⟨vm2, hvm2, hhm2⟩ := SQ.out
          obtain ⟨vm3, hvm3, hhm3⟩ := heads_of M0.out
          have SM3 := Lib.hid (hvm3.below B.out)
          have HM3 := Lib.hid hhm3
          have hwb : w.heap.size ≤ w8.heap.size := B.out.size
          have SM4 := Lib.hid (SM3.out.more hwb)
          have HW := Lib.hid hwb
          clear hrow hvl hvb hvi hh ON SQ hvm2 hhm2 vm2 hvm3 hhm3 hwb
          go_wp2_with (first
            | (at_builtin; refine wpList_app w8 rfl (.tmp 91) (.tmp 92) _ rfl w.heap.size 26 i1 _ 24 Try.underlying33 hi1 hy0 hy1 hy2 rfl (.slice An nx cn) nx vn rfl HR.out w8.heap.size Am nm cm vm3 rfl (HM3.out.1.trans LM.out) SM4.out HM3.out.one k3 k4 HW.out ?_; intro vq wq hOq hgq hbq; obtain ⟨Aq, cq, rfl⟩ := owns_slice hOq; have OQ := Lib.hid hOq; have GQ := Lib.hid hgq; clear hOq hgq hbq)
            | fail)
          have BQ := Lib.hid (B.out.grown GQ.out B.out.size BN.out)
          have TQ := Lib.hid (((HH.out wq GQ.out).app (HM3.out.below BQ.out)).texts OQ.out (fun zs hz => (List.mem_append.1 hz).elim (NB.out zs) (M0.out.byte zs)))
          have OX := Lib.hid (OX.out.beside HR.out GQ.out)
          have OB := Lib.hid (OB.out.beside HR.out GQ.out)
          have L := Lib.hid (L0.out.below BQ.out)
          have M := Lib.hid (M0.out.below BQ.out)
          have B := Lib.hid BQ.out
          clear HH HR GQ OQ BQ SM3 SM4 BN NB
          go_wp2_with fail
          refine (C5.out Aq cq _ TQ.out).mono ?_
          rintro e w9 ⟨Af, cf, rfl, hO, hb⟩
          have L := Lib.hid (L.out.below hb)
          have M := Lib.hid (M.out.below hb)
          have B := Lib.hid (B.out.trans (hb.mono B.out.size))
          have OX := Lib.hid (OX.out.below hb)
          have OB := Lib.hid (OB.out.below hb)
          have TQ := Lib.hid (TQ.out.below hb)
          have OF := Lib.hid (hO)
          clear hb hO TQ
          go_wp2
          go_loopw [19, 20] (fun v i wr => ∃ (k : Nat) (y : List Rc), k ≤ nm ∧ i = .int .i64 k ∧ tabTo x (m.take k) = some y ∧ (∃ A' c', v = .slice A' y.length c' ∧ Recs wr A' y.length c' y) ∧ Below w9.heap.size w9 wr) (fun _ i _ => nm - (intOf i).toNat)
          case atStart => exact ⟨0, x, Nat.zero_le _, rfl, TX0.out, ⟨Ax, cx, by rw [HNX.out], by have h := Recs.of_own OX.out; rw [HNX.out] at h; exact h⟩, Below.refl _ _⟩
          case round =>
            obtain ⟨k, y, hk, rfl, hy, ⟨Ay, cy, rfl, hR⟩, hbl⟩ := hrel
            have y3 : y.length ≤ 3 := tab_three (MAY.out k y hy)
            by_cases hkn : k < nm
            · have hki : (k : Int) < (nm : Int) := by omega
              obtain ⟨b, o, Ai, ni, ci, rfl, hlt, hc, ha⟩ := (M.out.below hbl).at_ k hkn
              have hst := ST.out k hkn y hy
              have hsh := HSH2.out k hkn
              rw [ha.len] at hsh
              have P := PU.out Ay cy y Ai ni ci (m.getD k []) wr y3 hR ha (BYM.out k) hsh
              have BW := Lib.hid (B.out.trans (hbl.mono B.out.size))
              have BLL := Lib.hid hbl
              obtain ⟨ny, hny⟩ : ∃ k, k = y.length := ⟨_, rfl⟩
              rw [← hny] at P ⊢
              cases hp : putR y (m.getD k []) with
              | none =>
                rw [hp] at P hst
                have hno := NO.out _ hst
                cases hno
              | some q =>
                rw [hp] at P hst
                have HST := Lib.hid hst
                have P := Lib.hid (show Calls Try.prog 21 #[.slice Ay ny cy, .slice Ai ni ci] wr (fun e w' => ∃ A' c', e = .returned (.tuple #[.slice A' q.length c', .int .i64 0]) ∧ OwnRecs w' wr.heap.size A' q.length c' q ∧ Below wr.heap.size wr w') from P)
                obtain ⟨nq, hnq⟩ : ∃ k, k = q.length := ⟨_, rfl⟩
                rw [← hnq] at P
                have HNQ := Lib.hid hnq
                clear hp hst hy hR hny ha hsh hbl y3 hnq
                go_wp2_with fail
                refine P.out.mono ?_
                rintro e wP ⟨A2, c2, rfl, hO, hb⟩
                have O2 := Lib.hid (Recs.of_own hO)
                have B2 := Lib.hid (BLL.out.trans (hb.mono BLL.out.size))
                clear hO hb
                go_wp2
                go_roundw
                case rel => exact ⟨k + 1, q, by omega, by go_num, HST.out, ⟨A2, c2, by rw [← HNQ.out], by rw [← HNQ.out]; exact O2.out⟩, B2.out⟩
                case measure => simp [intOf]; omega
            · obtain rfl : k = nm := by omega
              rw [ALL.out] at hy
              injection hy with hy
              subst hy
              rw [← HNZ.out] at hR ⊢
              have RY := Lib.hid hR
              have BL2 := Lib.hid hbl
              have OB2 := Lib.hid (OB.out.below hbl)
              have OF2 := Lib.hid (OF.out.below hbl)
              have BW := Lib.hid (B.out.trans (hbl.mono B.out.size))
              clear hR hbl y3
              go_wp2_with fail
              refine (same11_yes Ab nz cb z Ay nz cy _ (Recs.of_own OB2.out) RY.out).mono ?_
              rintro e wA ⟨rfl, hb⟩
              have OF3 := Lib.hid (OF2.out.below hb)
              have RY3 := Lib.hid (RY.out.below hb)
              have BW := Lib.hid (BW.out.trans (hb.mono BW.out.size))
              clear hb
              go_wp2_with fail
              refine (same11_yes Af nz cf z Ay nz cy _ (Recs.of_own OF3.out) RY3.out).mono ?_
              rintro e wB ⟨rfl, hb⟩
              have BW := Lib.hid (BW.out.trans (hb.mono BW.out.size))
              clear hb
              go_wp2
              go_ret
              exact ⟨rfl, BW.out⟩
        | none =>
          change Hid (∀ (A : Option Addr) (c : Nat) wx, Texts wx A (nl + nm) c (l ++ m) → Calls Try.prog 11 #[.slice A (nl + nm) c] wx fun e w' => ∃ A' c', e = .returned (.tuple #[.slice A' 0 c', .int .i64 110]) ∧ OwnRecs w' wx.heap.size A' 0 c' [] ∧ Below wx.heap.size wx w') at C2
          change Hid (∀ (A : Option Addr) (c : Nat) wx, Texts wx A (nx + nm) c (x.map recT ++ m) → Calls Try.prog 11 #[.slice A (nx + nm) c] wx fun e w' => ∃ A' c', e = .returned (.tuple #[.slice A' 0 c', .int .i64 110]) ∧ OwnRecs w' wx.heap.size A' 0 c' [] ∧ Below wx.heap.size wx w') at C5
          go_wp2_with fail
          refine (C2.out A5 c5 _ TA.out).mono ?_
          rintro e w8 ⟨Ab, cb, rfl, hO, hb⟩
          have L := Lib.hid (L.out.below hb)
          have M := Lib.hid (M.out.below hb)
          have B := Lib.hid (B.out.trans (hb.mono B.out.size))
          have TA := Lib.hid (TA.out.below hb)
          have OX := Lib.hid (OX.out.below hb)
          have ON := Lib.hid (ON.out.below hb)
          have OB := Lib.hid (hO)
          clear hb hO TA
          obtain ⟨vn, hrow, hvl, hvb, hvi⟩ := ON.out
          have HR := Lib.hid hrow
          have hh : Heads w8 (x.map recT) vn := ⟨by rw [hvl]; have := hrow.1; omega, fun i v hv => by
            have hi : i < nx := by
              rcases Nat.lt_or_ge i vn.length with k | k
              · have := hrow.1; omega
              · rw [List.getElem?_eq_none k] at hv; cases hv
            obtain ⟨Ai, ni, ci, hv2, ho⟩ := hvi i hi
            rw [hv2] at hv
            exact ⟨Ai, ni, ci, (Option.some.inj hv).symm, Arg.own ho⟩⟩
          have HH := Lib.hid (fun (w' : World) (hg : w8.grownBy w' (Value.slice An nx cn).ownBlock) => (show Heads w' (x.map recT) vn from ⟨hh.1, fun i v hv => by
            have hi : i < nx := by
              rcases Nat.lt_or_ge i vn.length with k | k
              · have := hrow.1; omega
              · rw [List.getElem?_eq_none k] at hv; cases hv
            obtain ⟨Ai, ni, ci, hv2, ho⟩ := hvi i hi
            rw [hv2] at hv
            exact ⟨Ai, ni, ci, (Option.some.inj hv).symm, Arg.own (ho.kept hg (owns_other2 (by decide) ho hrow))⟩⟩))
          have NB := Lib.hid (show ∀ zs ∈ x.map recT, ∀ z ∈ zs, isByte z from hvb)
          have BN := Lib.hid (show ∀ g, (Value.slice An nx cn).ownBlock = some g → w.heap.size ≤ g from fun g hg => (hrow.lt g hg).1)
          have SQ := Lib.hid (heads_of M.out)
          obtain ⟨vm2, hvm2, hhm2⟩ := SQ.out
          obtain ⟨vm3, hvm3, hhm3⟩ := heads_of M0.out
          have SM3 := Lib.hid (hvm3.below B.out)
          have HM3 := Lib.hid hhm3
          have hwb : w.heap.size ≤ w8.heap.size := B.out.size
          have SM4 := Lib.hid (SM3.out.more hwb)
          have HW := Lib.hid hwb
          clear hrow hvl hvb hvi hh ON SQ hvm2 hhm2 vm2 hvm3 hhm3 hwb
          go_wp2_with (first
            | (at_builtin; refine wpList_app w8 rfl (.tmp 91) (.tmp 92) _ rfl w.heap.size 26 i1 _ 24 Try.underlying33 hi1 hy0 hy1 hy2 rfl (.slice An nx cn) nx vn rfl HR.out w8.heap.size Am nm cm vm3 rfl (HM3.out.1.trans LM.out) SM4.out HM3.out.one k3 k4 HW.out ?_; intro vq wq hOq hgq hbq; obtain ⟨Aq, cq, rfl⟩ := owns_slice hOq; have OQ := Lib.hid hOq; have GQ := Lib.hid hgq; clear hOq hgq hbq)
            | fail)
          have BQ := Lib.hid (B.out.grown GQ.out B.out.size BN.out)
          have TQ := Lib.hid (((HH.out wq GQ.out).app (HM3.out.below BQ.out)).texts OQ.out (fun zs hz => (List.mem_append.1 hz).elim (NB.out zs) (M0.out.byte zs)))
          have OX := Lib.hid (OX.out.beside HR.out GQ.out)
          have OB := Lib.hid (OB.out.beside HR.out GQ.out)
          have L := Lib.hid (L0.out.below BQ.out)
          have M := Lib.hid (M0.out.below BQ.out)
          have B := Lib.hid BQ.out
          clear HH HR GQ OQ BQ SM3 SM4 BN NB
          go_wp2_with fail
          refine (C5.out Aq cq _ TQ.out).mono ?_
          rintro e w9 ⟨Af, cf, rfl, hO, hb⟩
          have L := Lib.hid (L.out.below hb)
          have M := Lib.hid (M.out.below hb)
          have B := Lib.hid (B.out.trans (hb.mono B.out.size))
          have OX := Lib.hid (OX.out.below hb)
          have OB := Lib.hid (OB.out.below hb)
          have TQ := Lib.hid (TQ.out.below hb)
          have OF := Lib.hid (hO)
          clear hb hO TQ
          go_wp2
          go_loopw [19, 20] (fun v i wr => ∃ (k : Nat) (y : List Rc), k ≤ nm ∧ i = .int .i64 k ∧ tabTo x (m.take k) = some y ∧ (∃ A' c', v = .slice A' y.length c' ∧ Recs wr A' y.length c' y) ∧ Below w9.heap.size w9 wr) (fun _ i _ => nm - (intOf i).toNat)
          case atStart => exact ⟨0, x, Nat.zero_le _, rfl, TX0.out, ⟨Ax, cx, by rw [HNX.out], by have h := Recs.of_own OX.out; rw [HNX.out] at h; exact h⟩, Below.refl _ _⟩
          case round =>
            obtain ⟨k, y, hk, rfl, hy, ⟨Ay, cy, rfl, hR⟩, hbl⟩ := hrel
            have y3 : y.length ≤ 3 := tab_three (MAY.out k y hy)
            by_cases hkn : k < nm
            · have hki : (k : Int) < (nm : Int) := by omega
              obtain ⟨b, o, Ai, ni, ci, rfl, hlt, hc, ha⟩ := (M.out.below hbl).at_ k hkn
              have hst := ST.out k hkn y hy
              have hsh := HSH2.out k hkn
              rw [ha.len] at hsh
              have P := PU.out Ay cy y Ai ni ci (m.getD k []) wr y3 hR ha (BYM.out k) hsh
              have BW := Lib.hid (B.out.trans (hbl.mono B.out.size))
              have BLL := Lib.hid hbl
              obtain ⟨ny, hny⟩ : ∃ k, k = y.length := ⟨_, rfl⟩
              rw [← hny] at P ⊢
              cases hp : putR y (m.getD k []) with
              | none =>
                rw [hp] at P hst
                have hno := NO.out _ hst
                have P := Lib.hid (show Calls Try.prog 21 #[.slice Ay ny cy, .slice Ai ni ci] wr (fun e w' => ∃ A' c', e = .returned (.tuple #[.slice A' 0 c', .int .i64 110]) ∧ OwnRecs w' wr.heap.size A' 0 c' [] ∧ Below wr.heap.size wr w') from P)
                clear hp hst hno hy hR hny ha hsh hbl y3
                go_wp2_with fail
                refine P.out.mono ?_
                rintro e wP ⟨A2, c2, rfl, hO, hb⟩
                have B2 := Lib.hid (BW.out.trans (hb.mono BW.out.size))
                clear hO hb
                go_wp2
                go_ret
                exact ⟨rfl, B2.out⟩
              | some q =>
                rw [hp] at P hst
                have HST := Lib.hid hst
                have P := Lib.hid (show Calls Try.prog 21 #[.slice Ay ny cy, .slice Ai ni ci] wr (fun e w' => ∃ A' c', e = .returned (.tuple #[.slice A' q.length c', .int .i64 0]) ∧ OwnRecs w' wr.heap.size A' q.length c' q ∧ Below wr.heap.size wr w') from P)
                obtain ⟨nq, hnq⟩ : ∃ k, k = q.length := ⟨_, rfl⟩
                rw [← hnq] at P
                have HNQ := Lib.hid hnq
                clear hp hst hy hR hny ha hsh hbl y3 hnq
                go_wp2_with fail
                refine P.out.mono ?_
                rintro e wP ⟨A2, c2, rfl, hO, hb⟩
                have O2 := Lib.hid (Recs.of_own hO)
                have B2 := Lib.hid (BLL.out.trans (hb.mono BLL.out.size))
                clear hO hb
                go_wp2
                go_roundw
                case rel => exact ⟨k + 1, q, by omega, by go_num, HST.out, ⟨A2, c2, by rw [← HNQ.out], by rw [← HNQ.out]; exact O2.out⟩, B2.out⟩
                case measure => simp [intOf]; omega
            · obtain rfl : k = nm := by omega
              rw [ALL.out] at hy
              cases hy
end Go.Proofs.Ythoflogegopikaa
