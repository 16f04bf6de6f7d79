/- Texts of layers 1 to 12, joined. -/
import Derived.Test.YtifgcfepbenpjaaGreatOa18
set_option maxRecDepth 100000
set_option maxHeartbeats 12800000
set_option linter.unusedVariables false
namespace Go.Proofs.YtifgcfepbenpjaaGreat
open Go.RowKit
theorem wa_pend {S : List Sec} {C : List Pnd} {a : Int} (hm : mayD S C = true) (h0 : 0 ≤ a) (h1 : a < (S.length : Int)) : waB S C a = pendB C a := by
 have ha : askE S C a = 0 := by unfold askE; rw [if_pos hm, if_neg (by omega)]
 unfold waB
 rw [if_pos ha]
theorem rbusy6_any (A : Option Addr) (n c : Nat) (A' : Option Addr) (n' c' : Nat) (S : List Sec) (C : List Pnd) (a m : Nat) (w : World) (hq : Dsk w A n c A' n' c' S C) (hs : SmallD S C) (hmay : mayD S C = true) (hm4 : m ≤ 4) (han : a + 2 * m ≤ n) :
  Calls Tryz.prog 141 #[diskV A n c A' n' c', .int .i64 (a : Int), .int .i64 (m : Int)] w fun e w' => e = .returned (.bool (busyTo S C a (2 * m))) ∧ Below w.heap.size w w' := by
 have hn100 : n ≤ 300 := by have := hs.secs; have := hq.secs.len; omega
 have hsl := hq.secs.len
 have hbel : Below w.heap.size w (w.alloc (.cells #[.slice A n c, .slice A' n' c'] 25)) := (Below.refl _ _).alloc (Nat.le_refl _) _
 have x := DBox.new hq
 obtain ⟨w1, hW⟩ : ∃ x : World, x = w.alloc (.cells #[.slice A n c, .slice A' n' c'] 25) := ⟨_, rfl⟩
 rw [← hW] at hbel x
 have X := Lh x
 have B := Lh hbel
 have WA := Lh (fun (k : Nat) (hk : k < 2 * m) wx (hx : Below w1.heap.size w1 wx) => (by
  have h := pending_any A n c A' n' c' S C ((a : Int) + (k : Int)) wx (x.below hx).dsk
  rwa [← wa_pend (S := S) hmay (by omega) (by omega)] at h :
  Calls Tryz.prog 172 #[diskV A n c A' n' c', .int .i64 ((a : Int) + (k : Int))] wx fun e w' => e = .returned (.bool (waB S C ((a : Int) + (k : Int)))) ∧ Below wx.heap.size wx w'))
 clear hbel x hq hs hmay
 have hw2 : wrap64 (2 * (m : Int)) = 2 * (m : Int) := by unfold wrap64; omega
 go_enter Tryz.func141, Tryz.ntmps141
 go_wp2
 rw [← hW]
 clear hW
 go_loopw [7] (fun i wr => ∃ k : Nat, k ≤ 2 * m ∧ i = .int .i64 k ∧ (∀ i, i < k → waB S C ((a : Int) + (i : Int)) = false) ∧ Below w1.heap.size w1 wr) (fun i _ => 2 * m - (intOf i).toNat)
 case atStart => exact ⟨0, Nat.zero_le _, rfl, fun i hi => absurd hi (Nat.not_lt_zero _), Below.refl _ _⟩
 case round =>
  obtain ⟨k, hk, rfl, hno, hb⟩ := hrel
  by_cases hkn : k < 2 * m
  ·have hki : (k : Int) < 2 * (m : Int) := by omega
   have hwa : wrap64 ((a : Int) + (k : Int)) = (a : Int) + (k : Int) := by unfold wrap64; omega
   have R := Lh (WA.out k hkn wr hb)
   obtain ⟨c0, c1⟩ := (X.out.below hb).cells
   have HB := Lh hb
   have HNO := Lh hno
   obtain ⟨q, hq⟩ : ∃ q, q = waB S C ((a : Int) + (k : Int)) := ⟨_, rfl⟩
   rw [← hq] at R
   have HQ := Lh hq
   clear hb hno hq
   go_wp2_with fail
   refine R.out.mono ?_
   rintro e w2 ⟨rfl, hb2⟩
   have HB2 := Lh (HB.out.trans (hb2.mono HB.out.size))
   clear hb2 R HB c0 c1
   cases q with
   | true =>
    go_wp2
    go_ret
    exact ⟨by rw [busy_yes hkn HQ.out.symm]; rfl, B.out.trans (HB2.out.mono B.out.size)⟩
   | false =>
    go_wp2
    go_roundw
    case rel => exact ⟨k + 1, by omega, by go_num, fun i hi => by rcases Nat.lt_or_ge i k with h | h; (exact HNO.out i h); (have e : i = k := Nat.le_antisymm (Nat.le_of_lt_succ hi) h; subst e; exact HQ.out.symm), HB2.out⟩
    all_goals (try case measure => simp [intOf]; omega)
  ·obtain rfl : k = 2 * m := by omega
   have HNO := Lh hno
   have HB := Lh hb
   have hki : ¬ (((2 * m : Nat) : Int) < 2 * (m : Int)) := by omega
   clear hno hb
   go_wp2
   go_ret
   exact ⟨by rw [busy_no HNO.out]; rfl, B.out.trans (HB.out.mono B.out.size)⟩
theorem rcount6_any (A : Option Addr) (n c : Nat) (A' : Option Addr) (n' c' : Nat) (S : List Sec) (C : List Pnd) (a m : Nat) (w : World) (hq : Dsk w A n c A' n' c' S C) (hs : SmallD S C) (hmay : mayD S C = true) (hm4 : m ≤ 4) (han : a + 2 * m ≤ n) :
  Calls Tryz.prog 142 #[diskV A n c A' n' c', .int .i64 (a : Int), .int .i64 (m : Int)] w fun e w' => e = .returned (.int .u64 (countTo (optsOf S C a (2 * m)) (2 * m))) ∧ Below w.heap.size w w' := by
 have hn100 : n ≤ 300 := by have := hs.secs; have := hq.secs.len; omega
 have hsl := hq.secs.len
 have hbel : Below w.heap.size w (w.alloc (.cells #[.slice A n c, .slice A' n' c'] 25)) := (Below.refl _ _).alloc (Nat.le_refl _) _
 have x := DBox.new hq
 obtain ⟨w1, hW⟩ : ∃ x : World, x = w.alloc (.cells #[.slice A n c, .slice A' n' c'] 25) := ⟨_, rfl⟩
 rw [← hW] at hbel x
 have X := Lh x
 have B := Lh hbel
 obtain ⟨l, hl⟩ : ∃ l, l = optsOf S C a (2 * m) := ⟨_, rfl⟩
 have OK := Lh (fun (k : Nat) (hk : k < 2 * m) => (by
  rw [hl, optsOf_get S C a hk, optAt_got hmay (by omega) (by omega)] : l.getD k none = if gotOk S C ((a : Int) + (k : Int)) = true then some (gotB S C ((a : Int) + (k : Int))) else none))
 have GOOD := Lh (fun (k : Nat) (hk : k < 2 * m) (hg : gotOk S C ((a : Int) + (k : Int)) = true) => (by
  have ha : askE S C ((a : Int) + (k : Int)) = 0 := by unfold askE; rw [if_pos hmay, if_neg (by omega)]
  have hr : rdE S C ((a : Int) + (k : Int)) = 0 := by unfold rdE; rw [if_pos ha, if_pos hg]
  have h := rd_good hr hq.secs.byte hq.pnds.byte
  rwa [show rdB S C ((a : Int) + (k : Int)) = gotB S C ((a : Int) + (k : Int)) from if_pos hr] at h : (gotB S C ((a : Int) + (k : Int))).length = 32 ∧ ∀ z ∈ gotB S C ((a : Int) + (k : Int)), isByte z))
 have GOT := Lh (fun (k : Nat) (hk : k < 2 * m) wx (hx : Below w1.heap.size w1 wx) => got_any A n c A' n' c' S C (a + k) wx (x.below hx).dsk hs (by omega))
 have CB := Lh (count_bounds (l := l) (n := 2 * m) fun k hk T hT => by
  rw [OK.out k hk] at hT
  split at hT
  ·rename_i hg
   injection hT with hT
   subst hT
   obtain ⟨h32, hby⟩ := GOOD.out k hk hg
   exact ver_bounds (by omega) hby
  ·cases hT)
 rw [← hl]
 clear hbel x hq hs hmay hl
 have hw2 : wrap64 (2 * (m : Int)) = 2 * (m : Int) := by unfold wrap64; omega
 go_enter Tryz.func142, Tryz.ntmps142
 go_wp2
 rw [← hW]
 clear hW
 go_loopw [8, 7, 9, 10] (fun i v _ _ wr => ∃ k : Nat, k ≤ 2 * m ∧ i = .int .i64 k ∧ v = .int .u64 (countTo l k) ∧ Below w1.heap.size w1 wr) (fun i _ _ _ _ => 2 * m - (intOf i).toNat)
 case atStart => exact ⟨0, Nat.zero_le _, rfl, rfl, Below.refl _ _⟩
 case round =>
  obtain ⟨k, hk, rfl, rfl, hb⟩ := hrel
  by_cases hkn : k < 2 * m
  ·have hki : (k : Int) < 2 * (m : Int) := by omega
   have hwa : wrap64 ((a : Int) + (k : Int)) = (a : Int) + (k : Int) := by unfold wrap64; omega
   have R := GOT.out k hkn wr hb
   have O := OK.out k hkn
   have G := GOOD.out k hkn
   have cb := CB.out k (by omega)
   rw [show ((a + k : Nat) : Int) = (a : Int) + (k : Int) from by omega] at R
   obtain ⟨g, hg⟩ : ∃ g, g = gotOk S C ((a : Int) + (k : Int)) := ⟨_, rfl⟩
   obtain ⟨T, hT⟩ : ∃ g, g = gotB S C ((a : Int) + (k : Int)) := ⟨_, rfl⟩
   rw [← hg, ← hT] at R O G
   obtain ⟨c0, c1⟩ := (X.out.below hb).cells
   have HB := Lh hb
   have R := Lh R
   have G := Lh G
   clear hb hg hT
   obtain ⟨u, hu⟩ : ∃ v, v = countTo l k := ⟨_, rfl⟩
   rw [← hu] at cb
   have HU := Lh hu
   rw [← hu]
   clear hu
   cases g with
   | false =>
    rw [if_neg (by decide)] at O
    have HCT := Lh (show countTo l (k + 1) = countTo l k by rw [countTo, O])
    clear O cb
    go_wp2_with fail
    refine R.out.mono ?_
    rintro e w2 ⟨Bt, dt, rfl, hown, hb2⟩
    have HB2 := Lh (HB.out.trans (hb2.mono HB.out.size))
    clear hb2 R HB c0 c1 hown
    go_wp2
    go_roundw
    case rel => exact ⟨k + 1, by omega, by go_num, by rw [HCT.out, HU.out], HB2.out⟩
    all_goals (try case measure => simp [intOf]; omega)
   | true =>
    rw [if_pos rfl] at O
    have hct : countTo l (k + 1) = max (countTo l k) (verOf T) := by rw [countTo, O]
    obtain ⟨h32, hby⟩ := G.out rfl
    have hv := ver_bounds (t := T) (by omega) hby
    obtain ⟨v, hvv⟩ : ∃ v, v = verOf T := ⟨_, rfl⟩
    rw [← hvv, ← HU.out] at hct
    rw [← hvv] at hv
    have HV := Lh hvv
    have HCT := Lh hct
    have HBY := Lh hby
    have H32 := Lh h32
    rw [h32] at R
    clear O hct hby hvv h32 G
    go_wp2_with fail
    refine R.out.mono ?_
    rintro e w2 ⟨Bt, dt, rfl, hown, hb2⟩
    have HB2 := Lh (HB.out.trans (hb2.mono HB.out.size))
    have ha := Arg.own hown
    have N4 := Lh (number_any _ 4 dt (T.take 4) w2 _ (ha.first (by omega : 4 ≤ 32)).seq (by rw [List.length_take, H32.out]; rfl) (by omega) (fun z hz => HBY.out z (List.mem_of_mem_take hz)))
    rw [show val (T.take 4) = verOf T from rfl, ← HV.out] at N4
    have hdc := ha.cap
    clear hb2 R HB c0 c1 hown ha
    go_wp2_with fail
    refine N4.out.mono ?_
    rintro e _ ⟨rfl, rfl⟩
    clear N4
    by_cases hvu : u < v
    ·have hmx : max u v = v := by omega
     rw [hmx] at HCT
     go_wp2
     go_roundw
     case rel => exact ⟨k + 1, by omega, by go_num, by rw [HCT.out], HB2.out⟩
     all_goals (try case measure => simp [intOf]; omega)
    ·have hmx : max u v = u := by omega
     rw [hmx] at HCT
     go_wp2
     go_roundw
     case rel => exact ⟨k + 1, by omega, by go_num, by rw [HCT.out], HB2.out⟩
     all_goals (try case measure => simp [intOf]; omega)
  ·obtain rfl : k = 2 * m := by omega
   have HB := Lh hb
   have hki : ¬ (((2 * m : Nat) : Int) < 2 * (m : Int)) := by omega
   clear hb
   go_wp2
   go_ret
   exact ⟨rfl, B.out.trans (HB.out.mono B.out.size)⟩
def OwnPns (w0 w : World) (base : Nat) (A : Option Addr) (n c : Nat) (ps : List Pnd) : Prop :=
 ∃ vs : List Value, w.ownsRow base 114 2 (.slice A n c) n vs ∧ ps.length = n ∧
  ∀ i, i < n → ∃ Ai ni ci, vs[i * 2]? = some (.int .i64 (ps.getD i (0, [])).1) ∧ vs[i * 2 + 1]? = some (.slice Ai ni ci) ∧ Arg w0 .u8 Ai ni ci (ps.getD i (0, [])).2
theorem OwnPns.nil (w0 w : World) (base : Nat) : OwnPns w0 w base none 0 0 [] := ⟨[], World.ownsRow_nil _ _ _ _, rfl, fun i hi => by omega⟩
theorem Pnds.of_pns {w0 w : World} {base : Nat} {A : Option Addr} {n c : Nat} {ps : List Pnd} (h : OwnPns w0 w base A n c ps) (hb : Below w0.heap.size w0 w) (hby : ∀ s ∈ ps, ∀ z ∈ s.2, isByte z) : Pnds w A n c ps := by
 obtain ⟨vs, hown, hl, hin⟩ := h
 refine ⟨hl, ?_, ?_, hby, fun i hi => ?_⟩
 ·rcases hown.2 with ⟨e, h0⟩ | ⟨g, cap, cur, e, _, _, h1, h2, _⟩ <;> cases e
  ·exact Nat.le_refl _
  ·exact h1
 ·rcases hown.2 with ⟨e, h0⟩ | ⟨g, cap, cur, e, _, _, h1, h2, _⟩ <;> cases e
  ·decide
  ·exact h2
 ·obtain ⟨Ai, ni, ci, hx, hv, ha⟩ := hin i hi
  obtain ⟨b, e, hlt, hc⟩ := owns_cell hown hv
  obtain ⟨b', e', _, hcx⟩ := owns_cell hown hx
  rw [e] at e'
  cases e'
  exact ⟨b, 0, Ai, ni, ci, e, hlt, by rw [Nat.zero_add]; exact hc, by rw [Nat.zero_add]; exact hcx, ha.below hb⟩
theorem wpList_pns (w0 w : World) {ops : Array Oper} {Q : Exit → Act → World → Prop} {a : Act} {rest : List Oper} {o : Oper} (hw : Region.wanted o (yielded ops a.tmps) = true) (s y : Operand)
  (ho : o.op = .call { callee := .builtin .append, args := #[s, y], argTypes := #[23, 23] }) (base : Nat) (A0 : Option Addr) (n c0 : Nat) (ps : List Pnd) (hs : a.eval s = .slice A0 n c0) (hown : OwnPns w0 w base A0 n c0 ps)
  (v : Int) (Ai : Option Addr) (ni ci : Nat) (zs : Txt) (ha : Arg w0 .u8 Ai ni ci zs) (hy : a.eval y = .slice (some ⟨w.heap.size, 0, none⟩) 1 1)
  (h63 : n + 1 ≤ 100000) (hbase : base ≤ w.heap.size)
  (h : ∀ g' c' w', OwnPns w0 w' base (some ⟨g', 0, none⟩) (n + 1) c' (ps ++ [(v, zs)]) → Below base w w' → wpList Tryz.prog ops Q rest (a.put o.dst (.slice (some ⟨g', 0, none⟩) (n + 1) c')) w') :
  wpList Tryz.prog ops Q (o :: rest) a (w.alloc (.cells #[.int .i64 v, .slice Ai ni ci] 114)) := by
 obtain ⟨i, hi, hz, hsize, hby⟩ := info_parts pnd_info
 have hml : (100000 : Nat) ≤ maxLen := by decide
 obtain ⟨vs, hv, hl, hin⟩ := hown
 have hblk := Blk.new w 114 [.int .i64 v, .slice Ai ni ci]
 obtain ⟨v', w', hrun, hown', hg, _⟩ := run_app2 (P := Tryz.prog) (w.alloc (.cells #[.int .i64 v, .slice Ai ni ci] 114)) base 23 o.type 114 i _ 32 Tryz.underlying23 hi hz hsize hby rfl _ n vs (hv.allocated _) w.heap.size (.int .i64 v) (.slice Ai ni ci) hblk rfl rfl (by omega) (by omega) (by simp; omega)
 obtain ⟨g', c', rfl⟩ := ownsRow_some hown'
 have hvl := hv.1
 have hfin : OwnPns w0 w' base (some ⟨g', 0, none⟩) (n + 1) c' (ps ++ [(v, zs)]) := by
  refine ⟨_, hown', by simp [hl], fun j hj => ?_⟩
  by_cases e : j = n
  ·subst e
   have e2 : (ps ++ [(v, zs)]).getD j (0, []) = (v, zs) := by simp [List.getD_eq_getElem?_getD, hl]
   refine ⟨Ai, ni, ci, ?_, ?_, by rw [e2]; exact ha⟩
   ·rw [List.getElem?_append_right (by omega), e2, show j * 2 - vs.length = 0 from by omega]; rfl
   ·rw [List.getElem?_append_right (by omega), show j * 2 + 1 - vs.length = 1 from by omega]; rfl
  ·obtain ⟨Aj, nj, cj, hv2, hx, hoj⟩ := hin j (by omega)
   have e2 : (ps ++ [(v, zs)]).getD j (0, []) = ps.getD j (0, []) := by simp [List.getD_eq_getElem?_getD, List.getElem?_append_left (show j < ps.length by omega)]
   refine ⟨Aj, nj, cj, ?_, ?_, by rw [e2]; exact hoj⟩
   ·rw [List.getElem?_append_left (by omega), e2]; exact hv2
   ·rw [List.getElem?_append_left (by omega)]; exact hx
 refine wpList_want hw fun K hK => ?_
 unfold Oper.wp execOp
 simp only [ho, resolve, invoke, builtin, Sem.run_bind, Sem.run_pure, Result.andThen_ok, List.map_toArray, List.map_cons, List.map_nil, hs, hy, hrun]
 exact hK _ _ (h g' c' w' hfin (((Below.refl _ _).alloc hbase _).grown hg (by simp; omega) (fun g e => (hv.lt g e).1)))
theorem writesP_byte {at_ : Int} {l : List Txt} {m : Nat} (hl : l.length = m) (hb : ∀ t ∈ l, ∀ z ∈ t, isByte z) : ∀ p ∈ writesP at_ l m, ∀ z ∈ p.2, isByte z := by
 intro p hp z hz
 unfold writesP someP at hp
 obtain ⟨i, hi, rfl⟩ := List.mem_map.1 hp
 have hi := List.mem_range.1 hi
 rw [if_pos hi] at hz
 dsimp only at hz
 rw [gtD, geE (by omega : i < l.length)] at hz
 exact hb _ (List.getElem_mem _) z hz
theorem hF_slF {S : List Sec} {C : List Pnd} (hS : ∀ s ∈ S, ∀ z ∈ s.2, isByte z) (hC : ∀ p ∈ C, ∀ z ∈ p.2, isByte z) (a m : Nat) :
  hF m (optsOf S C a (2 * m)) = if slF (slotV (optsOf S C a m)) (slotV (optsOf S C ((a + m : Nat) : Int) m)) = 0 then 1 else 0 := by
 have p0 := (opts_pos hS hC (a : Int) m).1
 have p1 := (opts_pos hS hC ((a + m : Nat) : Int) m).1
 unfold hF slF
 rw [opts_take, opts_drop]
 obtain ⟨x, hx⟩ : ∃ x, x = slotV (optsOf S C (a : Int) m) := ⟨_, rfl⟩
 obtain ⟨y, hy⟩ : ∃ y, y = slotV (optsOf S C ((a + m : Nat) : Int) m) := ⟨_, rfl⟩
 rw [← hx] at p0 ⊢
 rw [← hy] at p1 ⊢
 clear hx hy
 by_cases h1 : x = 0 ∧ y = 0
 ·rw [if_pos (.inl h1.1), if_pos h1]; rfl
 ·rw [if_neg h1]
  by_cases h2 : x < y
  ·rw [if_pos (.inr h2), if_pos h2]; rfl
  ·rw [if_neg h2, if_neg (by omega)]; rfl
theorem rplanned_any (A : Option Addr) (n c : Nat) (A' : Option Addr) (n' c' : Nat) (S : List Sec) (C : List Pnd) (a m : Nat) (Ab : Option Addr) (nb cb : Nat) (b : Txt) (w : World) (hq : Dsk w A n c A' n' c' S C) (hs : SmallD S C) (hmay : mayD S C = true) (hm1 : 1 ≤ m) (hm4 : m ≤ 4) (han : a + 2 * m ≤ n)
  (hb : Arg w .u8 Ab nb cb b) (hby : ∀ z ∈ b, isByte z) (hnb : nb ≤ 1000) (hsp : ∀ a, Ab = some a → a.spot = none ∨ cb = 0) :
  Calls Tryz.prog 139 #[diskV A n c A' n' c', .int .i64 (a : Int), .int .i64 (m : Int), .slice Ab nb cb] w fun e w' => ∃ A9 c9, e = .returned (.slice A9 m c9) ∧
   Pnds w' A9 m c9 (writesP ((a : Int) + hF m (optsOf S C a (2 * m)) * (m : Int)) (textsOf (countTo (optsOf S C a (2 * m)) (2 * m) + 1) b m) m) ∧ Below w.heap.size w w' := by
 have hn100 : n ≤ 300 := by have := hs.secs; have := hq.secs.len; omega
 have hsl := hq.secs.len
 have hcb := count_bounds (l := optsOf S C a (2 * m)) (n := 2 * m) (fun k hk T hT => by
  rw [optsOf_get S C a hk] at hT
  unfold optAt at hT
  split at hT
  ·rename_i h0
   injection hT with hT
   subst hT
   obtain ⟨h32, hbb⟩ := rd_good h0 hq.secs.byte hq.pnds.byte
   exact ver_bounds (by omega) hbb
  ·cases hT) (2 * m) (Nat.le_refl _)
 have hFS := hF_slF hq.secs.byte hq.pnds.byte a m
 have SL := Lh (fun wx hx => rslot_any A n c A' n' c' S C a m wx hx hs hmay hm1 hm4 han)
 have CT := Lh (fun wx hx => rcount6_any A n c A' n' c' S C a m wx hx hs hmay hm4 han)
 obtain ⟨v, hv⟩ : ∃ v, v = countTo (optsOf S C a (2 * m)) (2 * m) := ⟨_, rfl⟩
 obtain ⟨s, hsv⟩ : ∃ v, v = slF (slotV (optsOf S C a m)) (slotV (optsOf S C ((a + m : Nat) : Int) m)) := ⟨_, rfl⟩
 rw [← hsv] at SL hFS
 rw [← hv] at CT hcb ⊢
 rw [hFS]
 have hv2 : v + 1 < 18446744073709551616 := by omega
 have hwv : IntKind.u64.wrap (v + 1) = v + 1 := wraps_u64 (v + 1) (by omega) (by omega)
 obtain ⟨l, hl⟩ : ∃ l, l = textsOf (v + 1) b m := ⟨_, rfl⟩
 have WBY := Lh (fun at_ => writesP_byte (at_ := at_) (l := l) (m := m) (by rw [hl, textsOf_length]) (by rw [hl]; exact textsOf_byte hby))
 have hb0 : Below w.heap.size w (w.alloc (.cells #[.slice A n c, .slice A' n' c'] 25)) := (Below.refl _ _).alloc (Nat.le_refl _) _
 have X := Lh (DBox.new hq)
 have HA := Lh (hb.below hb0)
 have B := Lh hb0
 have HBY := Lh hby
 have HSP := Lh hsp
 obtain ⟨c0, c1⟩ := X.out.cells
 clear hq hs hmay hb0 hb hby hsp hv hsv hFS hsl
 rw [← hl]
 by_cases h0 : s = 0
 ·subst h0
  rw [if_pos rfl, Int.one_mul]
  have hwam : wrap64 ((a : Int) + (m : Int)) = (a : Int) + (m : Int) := by unfold wrap64; omega
  subst hl
  go_enter Tryz.func139, Tryz.ntmps139
  go_wp2_with fail
  refine (CT.out _ X.out.dsk).mono ?_
  rintro e w2 ⟨rfl, hb⟩
  have B := Lh (B.out.trans (hb.mono B.out.size))
  have X := Lh (X.out.below hb)
  have HA := Lh (HA.out.below hb)
  clear hb c0 c1
  obtain ⟨c0, c1⟩ := X.out.cells
  have PT := Lh (rparts_any (v + 1) ⟨by omega, hv2⟩ Ab nb cb b m hm4 w2 HA.out hnb HBY.out HSP.out)
  go_wp2_with fail
  refine PT.out.mono ?_
  rintro e w3 ⟨A14, c14, rfl, hO14, hb⟩
  have B := Lh (B.out.trans (hb.mono B.out.size))
  have X := Lh (X.out.below hb)
  have T14 := Lh (Texts.of_own hO14)
  clear hb c0 c1 hO14 PT
  obtain ⟨c0, c1⟩ := X.out.cells
  go_wp2_with fail
  refine (SL.out _ X.out.dsk).mono ?_
  rintro e w4 ⟨rfl, hb⟩
  have B := Lh (B.out.trans (hb.mono B.out.size))
  have T14 := Lh (T14.out.below hb)
  clear hb c0 c1 X
  go_wp2
  go_loopw [11, 10] (fun i o wr => ∃ (k : Nat) (A9 : Option Addr) (c9 : Nat), k ≤ m ∧ i = .int .i64 k ∧ o = .slice A9 k c9 ∧ OwnPns w4 wr w4.heap.size A9 k c9 ((writesP ((a : Int) + (m : Int)) (textsOf (v + 1) b m) m).take k) ∧ Below w4.heap.size w4 wr) (fun i _ _ => m - (intOf i).toNat)
  case atStart => exact ⟨0, none, 0, Nat.zero_le _, rfl, rfl, OwnPns.nil _ _ _, Below.refl _ _⟩
  case round =>
   obtain ⟨k, A9, c9, hk, rfl, rfl, hown, hb⟩ := hrel
   by_cases hkm : k < m
   ·have hki : (k : Int) < (m : Int) := by omega
    have hwk : wrap64 (((a : Int) + (m : Int)) + (k : Int)) = ((a : Int) + (m : Int)) + (k : Int) := by unfold wrap64; omega
    obtain ⟨b1, o1, A1, n1, c1, e1, hlt1, hc1, ha1⟩ := T14.out.at_ k hkm
    subst e1
    have hcc := (hb.cell (p := ⟨b1, o1 + k, none⟩) hlt1).trans hc1
    have HA1 := Lh ha1
    have O := Lh hown
    have B4 := Lh hb
    have hsz := hb.size
    have HNX := Lh (show (writesP ((a : Int) + (m : Int)) (textsOf (v + 1) b m) m).take (k + 1) = (writesP ((a : Int) + (m : Int)) (textsOf (v + 1) b m) m).take k ++ [(((a : Int) + (m : Int)) + (k : Int), (textsOf (v + 1) b m).getD k [])] by
     rw [take_snoc (by unfold writesP; rw [someP_len]; exact hkm) ((0, []) : Pnd)]
     unfold writesP
     rw [someP_at hkm, if_pos hkm])
    clear hown hb hc1 ha1 hlt1
    go_wp2_with (at_builtin; go_must (refine wpList_pns w4 _ rfl (.tmp 33) (.tmp 42) rfl w4.heap.size A9 k c9 ((writesP ((a : Int) + (m : Int)) (textsOf (v + 1) b m) m).take k) rfl O.out (((a : Int) + (m : Int)) + (k : Int)) A1 n1 c1 ((textsOf (v + 1) b m).getD k []) HA1.out rfl (by omega) hsz ?_); intro g9 c9' w9 ho9 hb9; have O9 := Lh ho9; have B9 := Lh (B4.out.trans (hb9.mono (Nat.le_refl _))); clear ho9 hb9)
    go_roundw
    case rel => exact ⟨k + 1, some ⟨g9, 0, none⟩, c9', by omega, by go_num, rfl, by rw [HNX.out]; exact O9.out, B9.out⟩
    all_goals (try case measure => simp [intOf]; omega)
   ·obtain rfl : k = m := by omega
    have O := Lh hown
    have B4 := Lh hb
    clear hown hb
    go_wp2
    go_ret
    have htk : ∀ (at_ : Int) (q : List Txt), (writesP at_ q k).take k = writesP at_ q k := fun at_ q => List.take_of_length_le (by unfold writesP; rw [someP_len]; exact Nat.le_refl _)
    rw [htk] at O
    exact ⟨A9, c9, rfl, Pnds.of_pns O.out B4.out (WBY.out _), B.out.trans (B4.out.mono B.out.size)⟩
 ·have hs1 : (s == 0) = false := beq_eq_false_iff_ne.2 h0
  rw [if_neg h0, Int.zero_mul, Int.add_zero]
  subst hl
  go_enter Tryz.func139, Tryz.ntmps139
  go_wp2_with fail
  refine (CT.out _ X.out.dsk).mono ?_
  rintro e w2 ⟨rfl, hb⟩
  have B := Lh (B.out.trans (hb.mono B.out.size))
  have X := Lh (X.out.below hb)
  have HA := Lh (HA.out.below hb)
  clear hb c0 c1
  obtain ⟨c0, c1⟩ := X.out.cells
  have PT := Lh (rparts_any (v + 1) ⟨by omega, hv2⟩ Ab nb cb b m hm4 w2 HA.out hnb HBY.out HSP.out)
  go_wp2_with fail
  refine PT.out.mono ?_
  rintro e w3 ⟨A14, c14, rfl, hO14, hb⟩
  have B := Lh (B.out.trans (hb.mono B.out.size))
  have X := Lh (X.out.below hb)
  have T14 := Lh (Texts.of_own hO14)
  clear hb c0 c1 hO14 PT
  obtain ⟨c0, c1⟩ := X.out.cells
  go_wp2_with fail
  refine (SL.out _ X.out.dsk).mono ?_
  rintro e w4 ⟨rfl, hb⟩
  have B := Lh (B.out.trans (hb.mono B.out.size))
  have T14 := Lh (T14.out.below hb)
  clear hb c0 c1 X
  go_wp2
  go_loopw [11, 10] (fun i o wr => ∃ (k : Nat) (A9 : Option Addr) (c9 : Nat), k ≤ m ∧ i = .int .i64 k ∧ o = .slice A9 k c9 ∧ OwnPns w4 wr w4.heap.size A9 k c9 ((writesP (a : Int) (textsOf (v + 1) b m) m).take k) ∧ Below w4.heap.size w4 wr) (fun i _ _ => m - (intOf i).toNat)
  case atStart => exact ⟨0, none, 0, Nat.zero_le _, rfl, rfl, OwnPns.nil _ _ _, Below.refl _ _⟩
  case round =>
   obtain ⟨k, A9, c9, hk, rfl, rfl, hown, hb⟩ := hrel
   by_cases hkm : k < m
   ·have hki : (k : Int) < (m : Int) := by omega
    have hwk : wrap64 ((a : Int) + (k : Int)) = (a : Int) + (k : Int) := by unfold wrap64; omega
    obtain ⟨b1, o1, A1, n1, c1, e1, hlt1, hc1, ha1⟩ := T14.out.at_ k hkm
    subst e1
    have hcc := (hb.cell (p := ⟨b1, o1 + k, none⟩) hlt1).trans hc1
    have HA1 := Lh ha1
    have O := Lh hown
    have B4 := Lh hb
    have hsz := hb.size
    have HNX := Lh (show (writesP (a : Int) (textsOf (v + 1) b m) m).take (k + 1) = (writesP (a : Int) (textsOf (v + 1) b m) m).take k ++ [((a : Int) + (k : Int), (textsOf (v + 1) b m).getD k [])] by
     rw [take_snoc (by unfold writesP; rw [someP_len]; exact hkm) ((0, []) : Pnd)]
     unfold writesP
     rw [someP_at hkm, if_pos hkm])
    clear hown hb hc1 ha1 hlt1
    go_wp2_with (at_builtin; go_must (refine wpList_pns w4 _ rfl (.tmp 33) (.tmp 42) rfl w4.heap.size A9 k c9 ((writesP (a : Int) (textsOf (v + 1) b m) m).take k) rfl O.out ((a : Int) + (k : Int)) A1 n1 c1 ((textsOf (v + 1) b m).getD k []) HA1.out rfl (by omega) hsz ?_); intro g9 c9' w9 ho9 hb9; have O9 := Lh ho9; have B9 := Lh (B4.out.trans (hb9.mono (Nat.le_refl _))); clear ho9 hb9)
    go_roundw
    case rel => exact ⟨k + 1, some ⟨g9, 0, none⟩, c9', by omega, by go_num, rfl, by rw [HNX.out]; exact O9.out, B9.out⟩
    all_goals (try case measure => simp [intOf]; omega)
   ·obtain rfl : k = m := by omega
    have O := Lh hown
    have B4 := Lh hb
    clear hown hb
    go_wp2
    go_ret
    have htk : ∀ (at_ : Int) (q : List Txt), (writesP at_ q k).take k = writesP at_ q k := fun at_ q => List.take_of_length_le (by unfold writesP; rw [someP_len]; exact Nat.le_refl _)
    rw [htk] at O
    exact ⟨A9, c9, rfl, Pnds.of_pns O.out B4.out (WBY.out _), B.out.trans (B4.out.mono B.out.size)⟩
def RPlan (w : World) (L : List Pnd) (E : Int) (e : Ending) (w' : World) : Prop :=
 ∃ A c, e = .returned (.tuple #[.slice A L.length c, .int .i64 E]) ∧ Pnds w' A L.length c L ∧ Below w.heap.size w w'
theorem RPlan.none (w : World) (L : List Pnd) (E : Int) (w' : World) (hL : L = []) (hb : Below w.heap.size w w') : RPlan w L E (.returned (.tuple #[.slice none 0 0, .int .i64 E])) w' := by
 subst hL
 exact ⟨Option.none, 0, rfl, Pnds.nil _, hb⟩
theorem rplan6_any (A : Option Addr) (n c : Nat) (A' : Option Addr) (n' c' : Nat) (S : List Sec) (C : List Pnd) (at_ wd : Int) (Ab : Option Addr) (nb cb : Nat) (b : Txt) (w : World) (hq : Dsk w A n c A' n' c' S C) (hs : SmallD S C)
  (hb : Arg w .u8 Ab nb cb b) (hby : ∀ z ∈ b, isByte z) (hnb : nb ≤ 1000) (hsp : ∀ a, Ab = some a → a.spot = none ∨ cb = 0) :
  Calls Tryz.prog 95 #[diskV A n c A' n' c', .int .i64 at_, .int .i64 wd, .slice Ab nb cb] w (RPlan w (cpL S C at_ wd b) (cpE S C at_ wd b)) := by
 have CK := Lh (fun wx hx => rcheck6_any A n c A' n' c' S C at_ wd wx hx hs)
 have hb0 : Below w.heap.size w (w.alloc (.cells #[.slice A n c, .slice A' n' c'] 25)) := (Below.refl _ _).alloc (Nat.le_refl _) _
 have X := Lh (DBox.new hq)
 have HA := Lh (hb.below hb0)
 have B := Lh hb0
 have hbl := hb.len
 obtain ⟨c0, c1⟩ := X.out.cells
 by_cases hE : cellE S C at_ wd = 0
 ·obtain ⟨hmay, a, m, rfl, rfl, hm1, hm4, han⟩ := cellE_zero hE
  have hsl := hq.secs.len
  have BZ := Lh (fun wx hx => rbusy6_any A n c A' n' c' S C a m wx hx hs hmay hm4 (by omega))
  have CT := Lh (fun wx hx => rcount6_any A n c A' n' c' S C a m wx hx hs hmay hm4 (by omega))
  have PD := Lh (fun (_ : countTo (optsOf S C a (2 * m)) (2 * m) ≠ 4294967295) wx hx (hb : Arg wx .u8 Ab nb cb b) => rplanned_any A n c A' n' c' S C a m Ab nb cb b wx hx hs hmay hm1 hm4 (by omega) hb hby hnb hsp)
  have hcp : cpE S C a m b = if 24 * (m : Int) < (b.length : Int) then 4 else if busyTo S C a (2 * m) = true then 60 else if countTo (optsOf S C a (2 * m)) (2 * m) = 4294967295 then 9 else 0 := by unfold cpE; rw [if_pos hE, Int.toNat_natCast]
  have hL : cpE S C a m b ≠ 0 → cpL S C a m b = [] := fun h => if_neg h
  have hcl0 : cpE S C a m b = 0 → cpL S C a m b = writesP ((a : Int) + hF m (optsOf S C a (2 * m)) * (m : Int)) (textsOf (countTo (optsOf S C a (2 * m)) (2 * m) + 1) b m) m := fun h => by unfold cpL cpT; rw [if_pos h, Int.toNat_natCast]
  rw [hE] at CK
  obtain ⟨L, hLL⟩ : ∃ L, L = cpL S C a m b := ⟨_, rfl⟩
  rw [← hLL] at hL hcl0 ⊢
  have hw24 : wrap64 (24 * (m : Int)) = 24 * (m : Int) := by unfold wrap64; omega
  rw [hbl] at hcp
  clear hq hs hb hby hb0 hsp hbl hE hLL hmay han hsl
  by_cases h1 : 24 * (m : Int) < (nb : Int)
  ·rw [if_pos h1] at hcp
   rw [hcp] at hL ⊢
   clear hcp hcl0
   go_enter Tryz.func95, Tryz.ntmps95
   go_wp2_with fail
   refine (CK.out _ X.out.dsk).mono ?_
   rintro e w1 ⟨rfl, hb⟩
   have B := Lh (B.out.trans (hb.mono B.out.size))
   have X := Lh (X.out.below hb)
   have HA := Lh (HA.out.below hb)
   clear hb c0 c1
   obtain ⟨c0, c1⟩ := X.out.cells
   go_wp2
   go_ret2
   exact RPlan.none _ _ _ _ (hL (by decide)) B.out
  rw [if_neg h1] at hcp
  obtain ⟨z, hz⟩ : ∃ z, z = busyTo S C a (2 * m) := ⟨_, rfl⟩
  rw [← hz] at BZ hcp
  clear hz
  cases z with
  | true =>
   rw [if_pos rfl] at hcp
   rw [hcp] at hL ⊢
   clear hcp hcl0
   go_enter Tryz.func95, Tryz.ntmps95
   go_wp2_with fail
   refine (CK.out _ X.out.dsk).mono ?_
   rintro e w1 ⟨rfl, hb⟩
   have B := Lh (B.out.trans (hb.mono B.out.size))
   have X := Lh (X.out.below hb)
   have HA := Lh (HA.out.below hb)
   clear hb c0 c1
   obtain ⟨c0, c1⟩ := X.out.cells
   go_wp2_with fail
   refine (BZ.out _ X.out.dsk).mono ?_
   rintro e w2 ⟨rfl, hb⟩
   have B := Lh (B.out.trans (hb.mono B.out.size))
   have X := Lh (X.out.below hb)
   have HA := Lh (HA.out.below hb)
   clear hb c0 c1
   obtain ⟨c0, c1⟩ := X.out.cells
   go_wp2
   go_ret2
   exact RPlan.none _ _ _ _ (hL (by decide)) B.out
  | false =>
   rw [if_neg (by decide)] at hcp
   obtain ⟨v, hv⟩ : ∃ z, z = countTo (optsOf S C a (2 * m)) (2 * m) := ⟨_, rfl⟩
   rw [← hv] at CT hcp hcl0
   by_cases h2 : v = 4294967295
   ·rw [if_pos h2] at hcp
    rw [hcp] at hL ⊢
    subst h2
    clear hcp hcl0 hv
    go_enter Tryz.func95, Tryz.ntmps95
    go_wp2_with fail
    refine (CK.out _ X.out.dsk).mono ?_
    rintro e w1 ⟨rfl, hb⟩
    have B := Lh (B.out.trans (hb.mono B.out.size))
    have X := Lh (X.out.below hb)
    have HA := Lh (HA.out.below hb)
    clear hb c0 c1
    obtain ⟨c0, c1⟩ := X.out.cells
    go_wp2_with fail
    refine (BZ.out _ X.out.dsk).mono ?_
    rintro e w2 ⟨rfl, hb⟩
    have B := Lh (B.out.trans (hb.mono B.out.size))
    have X := Lh (X.out.below hb)
    have HA := Lh (HA.out.below hb)
    clear hb c0 c1
    obtain ⟨c0, c1⟩ := X.out.cells
    go_wp2_with fail
    refine (CT.out _ X.out.dsk).mono ?_
    rintro e w3 ⟨rfl, hb⟩
    have B := Lh (B.out.trans (hb.mono B.out.size))
    have X := Lh (X.out.below hb)
    have HA := Lh (HA.out.below hb)
    clear hb c0 c1
    obtain ⟨c0, c1⟩ := X.out.cells
    go_wp2
    go_ret2
    exact RPlan.none _ _ _ _ (hL (by decide)) B.out
   rw [if_neg h2] at hcp
   rw [hcp] at hL ⊢
   rw [hcl0 hcp]
   have PD := Lh (PD.out (by rw [← hv]; exact h2))
   rw [← hv] at PD
   have hv1 : (v == 4294967295) = false := beq_eq_false_iff_ne.2 h2
   clear hcp hcl0 hv hL
   go_enter Tryz.func95, Tryz.ntmps95
   go_wp2_with fail
   refine (CK.out _ X.out.dsk).mono ?_
   rintro e w1 ⟨rfl, hb⟩
   have B := Lh (B.out.trans (hb.mono B.out.size))
   have X := Lh (X.out.below hb)
   have HA := Lh (HA.out.below hb)
   clear hb c0 c1
   obtain ⟨c0, c1⟩ := X.out.cells
   go_wp2_with fail
   refine (BZ.out _ X.out.dsk).mono ?_
   rintro e w2 ⟨rfl, hb⟩
   have B := Lh (B.out.trans (hb.mono B.out.size))
   have X := Lh (X.out.below hb)
   have HA := Lh (HA.out.below hb)
   clear hb c0 c1
   obtain ⟨c0, c1⟩ := X.out.cells
   go_wp2_with fail
   refine (CT.out _ X.out.dsk).mono ?_
   rintro e w3 ⟨rfl, hb⟩
   have B := Lh (B.out.trans (hb.mono B.out.size))
   have X := Lh (X.out.below hb)
   have HA := Lh (HA.out.below hb)
   clear hb c0 c1
   obtain ⟨c0, c1⟩ := X.out.cells
   go_wp2_with fail
   refine (PD.out _ X.out.dsk HA.out).mono ?_
   rintro e w5 ⟨A9, c9, rfl, hp, hb⟩
   have B := Lh (B.out.trans (hb.mono B.out.size))
   have HP := Lh hp
   clear hb hp c0 c1
   go_wp2
   go_ret2
   have hln : (writesP ((a : Int) + hF m (optsOf S C a (2 * m)) * (m : Int)) (textsOf (v + 1) b m) m).length = m := someP_len _ _ _ _
   exact ⟨A9, c9, by rw [hln]; rfl, by rw [hln]; exact HP.out, B.out⟩
 ·have e1 : cpE S C at_ wd b = cellE S C at_ wd := by unfold cpE; rw [if_neg hE]
  have e2 : cpL S C at_ wd b = [] := by unfold cpL; rw [e1, if_neg hE]
  rw [e1, e2]
  obtain ⟨E, hEE⟩ : ∃ E, E = cellE S C at_ wd := ⟨_, rfl⟩
  rw [← hEE] at CK hE ⊢
  have hne : (E != 0) = true := bne_iff_ne.2 hE
  clear e1 e2 hEE hE hq hs hb0 hb hby hsp hbl
  go_enter Tryz.func95, Tryz.ntmps95
  go_wp2_with fail
  refine (CK.out _ X.out.dsk).mono ?_
  rintro e w1 ⟨rfl, hb⟩
  have B := Lh (B.out.trans (hb.mono B.out.size))
  have X := Lh (X.out.below hb)
  have HA := Lh (HA.out.below hb)
  clear hb c0 c1
  obtain ⟨c0, c1⟩ := X.out.cells
  go_wp2
  go_ret2
  exact RPlan.none _ _ _ _ rfl B.out
end Go.Proofs.YtifgcfepbenpjaaGreat
