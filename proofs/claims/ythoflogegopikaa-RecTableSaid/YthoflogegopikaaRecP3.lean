/- Layer 11: bytes.Equal; the program's recIn and goneIn. -/
import Derived.Test.YthoflogegopikaaRecP2
import Derived.Test.YthoflogegopikaaRecFind
import Derived.Deep.CutBlock
import Derived.Deep.CutRange
import Derived.Laws.BitsAllLaws
namespace Go.Proofs.Ythoflogegopikaa
open Go.RowKit
set_option linter.unusedVariables false

theorem pequal11_any (A : Option Addr) (n c : Nat) (x : Txt) (A' : Option Addr) (n' c' : Nat) (y : Txt) (w : World) (hx : Arg w .u8 A n c x) (hy : Arg w .u8 A' n' c' y) (bx : ∀ z ∈ x, isByte z) (by_ : ∀ z ∈ y, isByte z) :
    Calls Try.prog 59 #[.slice A n c, .slice A' n' c'] w fun e w' => e = .returned (.bool (decide (x = y))) ∧ w' = w := by
  have hst1 := run_str (P := Try.prog) w 26 9 5 Try.underlying26 Try.underlying5 Try.underlying9 (c := c) hx.seq hx.len
  have hst2 := run_str (P := Try.prog) w 26 9 5 Try.underlying26 Try.underlying5 Try.underlying9 (c := c') hy.seq hy.len
  have hse := strs_eq bx by_
  obtain ⟨R, hR⟩ : ∃ R, R = decide (x = y) := ⟨_, rfl⟩
  rw [← hR] at hse ⊢
  clear hR hx hy bx by_
  go_enter Try.func59, Try.ntmps59
  go_wp2
  go_ret
  exact ⟨rfl, rfl⟩

theorem val_one11 {t : Txt} {k : Nat} (hk : k < t.length) : val ((t.drop k).take 1) = t.getD k 0 := by
  rw [List.getD_eq_getElem?_getD, List.getElem?_eq_getElem hk, List.drop_eq_getElem_cons hk, List.take_succ_cons, List.take_zero]
  show 0 * 256 + t[k] = t[k]
  rw [Int.zero_mul, Int.zero_add]
theorem byte_getD11 {t : Txt} (hb : ∀ z ∈ t, isByte z) (k : Nat) : isByte (t.getD k 0) := by
  rcases Nat.lt_or_ge k t.length with h | h
  · rw [List.getD_eq_getElem?_getD, List.getElem?_eq_getElem h]
    exact hb _ (List.getElem_mem h)
  · rw [List.getD_eq_getElem?_getD, List.getElem?_eq_none h]
    exact ⟨by decide, by decide⟩
/-- The numbers of a text of 14 bytes. -/
theorem nums8_eq {t : Txt} (ht : t.length = 14) : numsTo t sz8R 8 = [t.getD 0 0, t.getD 1 0, val ((t.drop 2).take 4), val ((t.drop 6).take 4), t.getD 10 0, t.getD 11 0, t.getD 12 0, t.getD 13 0] := by
  have h : numsTo t sz8R 8 = ((((((([] ++ [val ((t.drop 0).take 1)]) ++ [val ((t.drop 1).take 1)]) ++ [val ((t.drop 2).take 4)]) ++ [val ((t.drop 6).take 4)]) ++ [val ((t.drop 10).take 1)]) ++ [val ((t.drop 11).take 1)]) ++ [val ((t.drop 12).take 1)]) ++ [val ((t.drop 13).take 1)] := rfl
  rw [h, val_one11 (by omega), val_one11 (by omega), val_one11 (by omega), val_one11 (by omega), val_one11 (by omega), val_one11 (by omega)]
  rfl
theorem nums2_eq {t : Txt} (ht : t.length = 2) : numsTo t [1, 1] 2 = [t.getD 0 0, t.getD 1 0] := by
  have h : numsTo t [1, 1] 2 = ([] ++ [val ((t.drop 0).take 1)]) ++ [val ((t.drop 1).take 1)] := rfl
  rw [h, val_one11 (by omega), val_one11 (by omega)]
  rfl
/-- The record that the program makes of a text. -/
def bitR (t : Txt) : Rc := ⟨t.getD 1 0, val ((t.drop 2).take 4), val ((t.drop 6).take 4), t.getD 10 0, t.getD 11 0, t.getD 12 0, decide (t.getD 13 0 / 2 % 2 = 1), decide (t.getD 13 0 % 2 = 1)⟩
theorem bit_is {t : Txt} (ht : t.length = 14) (hb : ∀ z ∈ t, isByte z) : isR (bitR t) := raw_is ht hb
theorem bit_raw {t : Txt} (hb : ∀ z ∈ t, isByte z) (h : t.getD 13 0 ≤ 3) : bitR t = rawR t := by
  have := byte_getD11 hb 13
  unfold isByte at this
  unfold bitR rawR
  congr 1
  rw [decide_eq_decide]
  omega
theorem rec_raw {t : Txt} (hb : ∀ z ∈ t, isByte z) (h : isN t) : recT (rawR t) = t := by
  obtain ⟨h1, h2, h3, h4⟩ := h
  have hy := byte_getD11 hb 13
  unfold isByte at hy
  have hf : flagR (rawR t) = t.getD 13 0 := by
    show (if decide (2 ≤ t.getD 13 0) = true then (2 : Int) else 0) + (if decide (t.getD 13 0 % 2 = 1) = true then 1 else 0) = _
    by_cases k1 : 2 ≤ t.getD 13 0 <;> by_cases k2 : t.getD 13 0 % 2 = 1 <;> simp only [k1, k2, decide_true, decide_false, if_true, Bool.false_eq_true, if_false] <;> omega
  have hn : numsR (rawR t) = numsTo t sz8R 8 := by
    rw [nums8_eq h1]
    show [1, t.getD 1 0, _, _, _, _, _, flagR (rawR t)] = _
    rw [hf, h2]
    rfl
  show rowTo (numsR (rawR t)) sz8R 8 = t
  rw [hn]
  exact write_read t sz8R hb (by rw [h1]; decide)
/-- Its note is the text just where the text is a note. -/
theorem bit_iff {t : Txt} (ht : t.length = 14) (hb : ∀ z ∈ t, isByte z) : ntB (bitR t) = t ↔ isN t := by
  constructor
  · intro h
    unfold ntB at h
    split at h
    · rename_i hm
      have k := raw_recT (bit_is ht hb) hm
      rw [h] at k
      exact k.2
    · rw [← h] at ht
      cases ht
  · intro h
    rw [bit_raw hb h.2.2.1, show ntB (rawR t) = recT (rawR t) from if_pos h.2.2.2]
    exact rec_raw hb h
theorem go_iff {t : Txt} (ht : t.length = 2) (hb : ∀ z ∈ t, isByte z) : goB (t.getD 1 0) = t ↔ isGo t := by
  have hy := byte_getD11 hb 1
  unfold isByte at hy
  match t, ht with
  | [x, y], _ =>
    have hy : 0 ≤ y ∧ y < 256 := hy
    show goB y = [x, y] ↔ (2 = 2 ∧ x = 2 ∧ y < 3)
    unfold goB goE goneT
    by_cases h : 0 ≤ y ∧ y < 3
    · rw [if_pos h, if_pos rfl]
      constructor
      · intro e
        injection e with e
        exact ⟨rfl, e.symm, h.2⟩
      · rintro ⟨_, rfl, _⟩
        rfl
    · rw [if_neg h, if_neg (by decide)]
      constructor
      · intro e
        cases e
      · rintro ⟨_, _, k⟩
        exact absurd ⟨hy.1, k⟩ h
theorem goB_byte (k : Int) : ∀ z ∈ goB k, isByte z := by
  intro z hz
  unfold goB at hz
  by_cases h : 0 ≤ k ∧ k < 3
  · rw [show goE k = 0 from if_pos h, if_pos rfl] at hz
    unfold goneT at hz
    simp only [List.mem_cons, List.not_mem_nil, or_false] at hz
    unfold isByte
    rcases hz with rfl | rfl <;> omega
  · rw [show goE k = 2 from if_neg h, if_neg (by decide)] at hz
    cases hz
theorem ntB_byte (r : Rc) : ∀ z ∈ ntB r, isByte z := by
  intro z hz
  unfold ntB at hz
  split at hz
  · exact recT_byte r z hz
  · cases hz
theorem and_two {x : Int} (h0 : 0 ≤ x) (h : x < 256) : (bits .and .u64 x 2 != 0) = decide (x / 2 % 2 = 1) := by
  obtain ⟨n, rfl⟩ : ∃ n : Nat, x = n := ⟨x.toNat, by omega⟩
  have H : ∀ y : Fin 256, (bits .and .u64 ((y : Nat) : Int) 2 != 0) = decide (((y : Nat) : Int) / 2 % 2 = 1) := by decide +kernel
  exact H ⟨n, by omega⟩
theorem and_one {x : Int} (h0 : 0 ≤ x) (h : x < 256) : (bits .and .u64 x 1 != 0) = decide (x % 2 = 1) := by
  obtain ⟨n, rfl⟩ : ∃ n : Nat, x = n := ⟨x.toNat, by omega⟩
  have H : ∀ y : Fin 256, (bits .and .u64 ((y : Nat) : Int) 1 != 0) = decide (((y : Nat) : Int) % 2 = 1) := by decide +kernel
  exact H ⟨n, by omega⟩
theorem eight_at {w : World} {B : Nat} {A : Option Addr} {c : Nat} {x0 x1 x2 x3 x4 x5 x6 x7 : Int} (h : w.ownsRow B 61 1 (.slice A 8 c) 8 (ints .u64 [x0, x1, x2, x3, x4, x5, x6, x7])) :
    ∃ b, A = some ⟨b, 0, none⟩ ∧ w.cell? ⟨b, 0, none⟩ = some (.int .u64 x0) ∧ w.cell? ⟨b, 1, none⟩ = some (.int .u64 x1) ∧ w.cell? ⟨b, 2, none⟩ = some (.int .u64 x2) ∧ w.cell? ⟨b, 3, none⟩ = some (.int .u64 x3) ∧ w.cell? ⟨b, 4, none⟩ = some (.int .u64 x4) ∧ w.cell? ⟨b, 5, none⟩ = some (.int .u64 x5) ∧ w.cell? ⟨b, 6, none⟩ = some (.int .u64 x6) ∧ w.cell? ⟨b, 7, none⟩ = some (.int .u64 x7) := by
  obtain ⟨b, o, rfl, hlt, hc⟩ := (Seq.own h).at_ (by rw [ints_length]; simp)
  have ho : o = 0 := by
    rcases h.2 with ⟨e, h0⟩ | ⟨g, cap, cur, e, _⟩
    · cases e
    · injection e with e; injection e with e; injection e
  subst ho
  refine ⟨b, rfl, ?_⟩
  have H := fun j v hv => (Nat.zero_add j) ▸ hc j v hv
  exact ⟨H 0 _ rfl, H 1 _ rfl, H 2 _ rfl, H 3 _ rfl, H 4 _ rfl, H 5 _ rfl, H 6 _ rfl, H 7 _ rfl⟩
theorem two_at {w : World} {B : Nat} {A : Option Addr} {c : Nat} {x0 x1 : Int} (h : w.ownsRow B 61 1 (.slice A 2 c) 2 (ints .u64 [x0, x1])) : ∃ b, A = some ⟨b, 0, none⟩ ∧ w.cell? ⟨b, 0, none⟩ = some (.int .u64 x0) ∧ w.cell? ⟨b, 1, none⟩ = some (.int .u64 x1) := by
  obtain ⟨b, o, rfl, hlt, hc⟩ := (Seq.own h).at_ (by rw [ints_length]; simp)
  have ho : o = 0 := by
    rcases h.2 with ⟨e, h0⟩ | ⟨g, cap, cur, e, _⟩
    · cases e
    · injection e with e; injection e with e; injection e
  subst ho
  have H := fun j v hv => (Nat.zero_add j) ▸ hc j v hv
  exact ⟨b, rfl, H 0 _ rfl, H 1 _ rfl⟩

/-- What goneIn answers. -/
def GoOut (w : World) (t : Txt) (e : Ending) (w' : World) : Prop := ((isGo t ∧ e = .returned (.tuple #[.int .i64 (t.getD 1 0), .bool true])) ∨ (¬ isGo t ∧ e = .returned (.tuple #[.int .i64 0, .bool false]))) ∧ Below w.heap.size w w'
theorem pgonein_any (A : Option Addr) (n c : Nat) (t : Txt) (w : World) (ht : Arg w .u8 A n c t) (hby : ∀ z ∈ t, isByte z) (hn : n ≤ 1000) : Calls Try.prog 53 #[.slice A n c] w (GoOut w t) := by
  have hlen := ht.len
  have HA := Lib.hid ht
  unfold GoOut
  by_cases h2 : n = 2
  · subst h2
    have hnm := nums2_eq hlen
    have hy := byte_getD11 hby 1
    have hiff := go_iff hlen hby
    have EQ := Lib.hid (fun (A' : Option Addr) (n' c' : Nat) wx (h1 : Arg wx .u8 A' n' c' (goB (t.getD 1 0))) (h2 : Arg wx .u8 A 2 c t) => pequal11_any A' n' c' (goB (t.getD 1 0)) A 2 c t wx h1 h2 (goB_byte _) hby)
    have hde : decide (goB (t.getD 1 0) = t) = decide (isGo t) := decide_eq_decide.2 hiff
    rw [hde] at EQ
    have GP := Lib.hid (fun wx => pgone11_any (t.getD 1 0) wx)
    unfold RowOut at GP
    obtain ⟨b1, hb1⟩ : ∃ b, b = goB (t.getD 1 0) := ⟨_, rfl⟩
    obtain ⟨E1, hE1⟩ : ∃ b, b = goE (t.getD 1 0) := ⟨_, rfl⟩
    obtain ⟨x0, hx0⟩ : ∃ x, x = t.getD 0 0 := ⟨_, rfl⟩
    obtain ⟨x1, hx1⟩ : ∃ x, x = t.getD 1 0 := ⟨_, rfl⟩
    rw [← hb1, ← hE1] at GP
    rw [← hb1] at EQ
    rw [← hx0, ← hx1] at hnm
    rw [← hx1] at hy GP ⊢
    have e1 : IntKind.i64.wrap x1 = x1 := by unfold isByte at hy; rw [IntKind.wrap_i64]; omega
    have HNM := Lib.hid hnm
    have HB := Lib.hid hby
    have HL := Lib.hid hlen
    clear hiff hde hb1 hE1 hx0 hx1 hnm hby hlen ht hn hy
    go_enter Try.func53, Try.ntmps53
    go_wp2_with fail
    refine (psizes2_any _).mono ?_
    rintro e w1 ⟨gS, rfl, hAS, hb⟩
    have B := Lib.hid hb
    have HAS := Lib.hid hAS
    have RT := Lib.hid (HA.out.below hb)
    clear hb hAS
    go_wp2_with fail
    refine (read_ok A (some ⟨gS, 0, none⟩) 2 c 2 2 t [1, 1] _ HAS.out.seq rfl (by decide) RT.out.seq HL.out rfl RT.out.cap RT.out.max HB.out).mono ?_
    intro e w2 hout
    obtain ⟨A2, c2, rfl, hown, hb⟩ := hout.len (zs' := [x0, x1]) (n := 2) HNM.out rfl
    have B := Lib.hid (B.out.trans (hb.mono B.out.size))
    have RT := Lib.hid (RT.out.below hb)
    obtain ⟨g, rfl, q0, q1⟩ := two_at hown
    clear hown hb hout
    go_wp2_with fail
    refine (GP.out _).mono ?_
    rintro e w3 ⟨A3, c3, rfl, hown, hb⟩
    have B := Lib.hid (B.out.trans (hb.mono B.out.size))
    have RT := Lib.hid (RT.out.below hb)
    have R3 := Lib.hid (Arg.own hown)
    clear hown hb q0 q1
    go_wp2_with fail
    refine (EQ.out _ _ _ _ R3.out RT.out).mono ?_
    rintro e w4 ⟨rfl, rfl⟩
    by_cases hg : isGo t
    · rw [decide_eq_true hg]
      have HG := Lib.hid hg
      clear hg
      go_wp2
      go_ret2
      exact ⟨.inl ⟨HG.out, rfl⟩, B.out⟩
    · rw [decide_eq_false hg]
      have HG := Lib.hid hg
      clear hg
      go_wp2
      go_ret2
      exact ⟨.inr ⟨HG.out, rfl⟩, B.out⟩
  · have HN := Lib.hid (show ¬ isGo t from fun k => h2 (hlen.symm.trans k.1))
    clear ht hby hlen
    go_enter Try.func53, Try.ntmps53
    go_wp2_with fail
    refine (psizes2_any _).mono ?_
    rintro e w1 ⟨gS, rfl, hAS, hb⟩
    have B := Lib.hid hb
    have HAS := Lib.hid hAS
    clear hb hAS
    go_wp2_with fail
    refine (read_short A (some ⟨gS, 0, none⟩) n c 2 2 [1, 1] _ _ HAS.out.seq rfl (by decide) h2 hn).mono ?_
    rintro e w2 ⟨rfl, rfl⟩
    go_wp2
    go_ret2
    exact ⟨.inr ⟨HN.out, rfl⟩, B.out⟩

end Go.Proofs.Ythoflogegopikaa
