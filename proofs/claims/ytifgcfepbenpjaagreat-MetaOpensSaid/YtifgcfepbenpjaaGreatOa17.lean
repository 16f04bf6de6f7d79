/- Texts of layers 1 to 12, joined. -/
import Derived.Test.YtifgcfepbenpjaaGreatOa14
import Derived.Deep.RegionHeld3
import Derived.Deep.RegionWith
import Derived.Deep.Cut
import Derived.Deep.CutRange
import Derived.Lib.SlBytesConst
import Derived.Lib.QuoteBits
import Derived.Deep.AppendSrc
import Derived.KernelRfl
set_option maxRecDepth 100000
set_option maxHeartbeats 12800000
set_option linter.unusedVariables false
namespace Go.Proofs.YtifgcfepbenpjaaGreat
theorem partT_parts (v n : Int) (b : Txt) : partT v n b = digs 4 v ++ ([n % 256, (b.length : Int) % 256, 0, 0] ++ (b ++ List.replicate (24 - b.length) 0)) := by
 unfold partT
 rw [rowT_eq]
 simp only [List.append_assoc]
theorem ver_part {v : Int} (n : Int) (b : Txt) (hv : 0 ≤ v ∧ v < 4294967296) : verOf (partT v n b) = v := by
 unfold verOf
 rw [partT_parts, List.take_append_of_le_length (by rw [digs_length]; decide), List.take_of_length_le (by rw [digs_length]; decide)]
 exact val_digs 4 v hv.1 (Int.ediv_eq_zero_of_lt hv.1 (by rw [show (256 : Int) ^ 4 = 4294967296 by decide]; exact hv.2))
theorem many_part (v n : Int) {b : Txt} (hb : b.length ≤ 24) : manyOf (partT v n b) = b.length := by
 unfold manyOf
 rw [partT_parts, gtD, List.getElem?_append_right (by rw [digs_length]; decide), digs_length]
 show ((b.length : Int) % 256) = _
 omega
theorem bytes_part (v n : Int) {b : Txt} (hb : b.length ≤ 24) : partB (partT v n b) = b := by
 unfold partB
 rw [many_part v n hb, Int.toNat_natCast, partT_parts, List.drop_append, digs_length, List.drop_of_length_le (by rw [digs_length]; decide), List.nil_append]
 show (b ++ List.replicate (24 - b.length) 0).take b.length = b
 rw [List.take_append_of_le_length (Nat.le_refl _), List.take_of_length_le (Nat.le_refl _)]
theorem partO_part {v : Int} (hv : 0 < v ∧ v < 4294967296) (n : Nat) {b : Txt} (hb : b.length ≤ 24) : partO n (some (partT v n b)) = some (v, b) := by
 have h1 := ver_part (v := v) n b ⟨by omega, hv.2⟩
 have h2 := many_part v n hb
 have h3 := bytes_part v n hb
 have h : partOk n (partT v n b) = true := by
  simp only [partOk, Bool.and_eq_true, decide_eq_true_eq]
  rw [h1, h2, h3]
  exact ⟨⟨by omega, by omega⟩, rfl⟩
 unfold partO
 dsimp only
 rw [if_pos h, h1, h3]
theorem chunk_len (b : Txt) (k : Nat) : (chunk b k).length = min 24 (b.length - 24 * k) := by
 unfold chunk
 rw [List.length_take, List.length_drop]
theorem range_get {α : Type} (f : Nat → α) (d : α) {n k : Nat} (h : k < n) : ((List.range n).map f).getD k d = f k := by
 rw [gtD, geE (by simpa using h)]
 simp
theorem held_new {l : List (Option Txt)} {v : Int} {b : Txt} {m : Nat} (hv : 0 < v ∧ v < 4294967296) (hl : ∀ i, i < m → l.getD i none = some (partT v i (chunk b i))) : ∀ k, k ≤ m → heldTo l k = some ((List.range k).map fun i => (v, chunk b i)) := by
 intro k
 induction k with
 | zero => intro _; rfl
 | succ k ih =>
  intro hk
  have h1 := ih (by omega)
  have h2 := partO_part hv k (b := chunk b k) (by rw [chunk_len]; omega)
  rw [← hl k (by omega)] at h2
  rw [heldTo_succ h1 h2 ?_, List.range_succ, List.map_append]
  ·rfl
  ·by_cases h0 : k = 0
   ·exact .inl h0
   ·refine .inr ?_
    rw [range_get (fun i => ((v, chunk b i) : Prt)) _ (by omega)]
    refine ⟨rfl, ?_⟩
    show (chunk b k).length = 0 ∨ 24 ≤ (chunk b (k - 1)).length
    rw [chunk_len, chunk_len]
    omega
theorem join_new (v : Int) (b : Txt) (m : Nat) : joinB ((List.range m).map fun i => ((v, chunk b i) : Prt)) = b.take (24 * m) := by
 induction m with
 | zero => simp [joinB]
 | succ m ih =>
  rw [List.range_succ, List.map_append]
  show joinB (_ ++ [((v, chunk b m) : Prt)]) = _
  rw [joinB_snoc, ih, Nat.mul_succ, List.take_add]
  rfl
theorem slot_new {l : List (Option Txt)} {v : Int} {b : Txt} {m : Nat} (hv : 0 < v ∧ v < 4294967296) (hm : 1 ≤ m) (hlen : l.length = m) (hb : b.length ≤ 24 * m) (hl : ∀ i, i < m → l.getD i none = some (partT v i (chunk b i))) : slotV l = v ∧ slotB l = b := by
 have h := held_new hv hl m (Nat.le_refl _)
 unfold slotV slotB
 rw [hlen, h]
 refine ⟨?_, ?_⟩
 ·obtain ⟨k, rfl⟩ : ∃ k, m = k + 1 := ⟨m - 1, by omega⟩
  dsimp only
  rw [List.range_succ, List.map_append]
  exact joinV_snoc _ _
 ·dsimp only
  rw [join_new, List.take_of_length_le hb]
theorem held_from {l : List (Option Txt)} {k : Nat} {ps : List Prt} (h : heldTo l k = some ps) : ∀ p ∈ ps, ∃ i T, i < k ∧ l.getD i none = some T ∧ p.1 = verOf T := by
 induction k generalizing ps with
 | zero => injection h with h; subst h; simp
 | succ k ih =>
  rw [heldTo] at h
  rcases h1 : heldTo l k with _ | qs
  ·rw [h1] at h; cases h
  ·rw [h1] at h
   dsimp only at h
   rcases h2 : partO k (l.getD k none) with _ | p
   ·rw [h2] at h; cases h
   ·rw [h2] at h
    dsimp only at h
    split at h
    ·injection h with h
     subst h
     intro q hq
     rcases List.mem_append.1 hq with hq | hq
     ·obtain ⟨i, T, hi, e1, e2⟩ := ih h1 q hq
      exact ⟨i, T, by omega, e1, e2⟩
     ·rw [List.mem_singleton] at hq
      subst hq
      rcases h3 : l.getD k none with _ | T
      ·rw [h3] at h2; cases h2
      ·rw [h3] at h2
       unfold partO at h2
       dsimp only at h2
       split at h2
       ·injection h2 with h2
        subst h2
        exact ⟨k, T, by omega, h3, rfl⟩
       ·cases h2
    ·cases h
theorem joinV_mem {ps : List Prt} (h : ps ≠ []) : ∃ p ∈ ps, joinV ps = p.1 := by
 refine ⟨ps.getLast h, List.getLast_mem h, ?_⟩
 have e := joinV_snoc ps.dropLast (ps.getLast h)
 rwa [List.dropLast_concat_getLast h] at e
theorem slotV_le {l : List (Option Txt)} {c : Int} (hc : 0 ≤ c) (h : ∀ i T, i < l.length → l.getD i none = some T → verOf T ≤ c) : slotV l ≤ c := by
 unfold slotV
 rcases h1 : heldTo l l.length with _ | ps
 ·exact hc
 ·dsimp only
  by_cases hp : ps = []
  ·subst hp; exact hc
  ·obtain ⟨p, hp, e⟩ := joinV_mem hp
   obtain ⟨i, T, hi, e1, e2⟩ := held_from h1 p hp
   rw [e, e2]
   exact h i T hi e1
theorem count_ge {l : List (Option Txt)} : ∀ n i T, i < n → l.getD i none = some T → verOf T ≤ countTo l n := by
 intro n
 induction n with
 | zero => intro i T hi; omega
 | succ n ih =>
  intro i T hi h
  rw [countTo]
  rcases Nat.lt_or_ge i n with h1 | h1
  ·have h2 := ih i T h1 h
   rcases h3 : l.getD n none with _ | U
   ·exact h2
   ·dsimp only; omega
  ·obtain rfl : i = n := by omega
   rw [h]
   dsimp only
   omega
theorem getD_take {α : Type} {l : List α} {d : α} {m i : Nat} (h : i < m) : (l.take m).getD i d = l.getD i d := by
 rw [gtD, gtD, List.getElem?_take_of_lt h]
theorem getD_drop {α : Type} {l : List α} {d : α} {m i : Nat} : (l.drop m).getD i d = l.getD (m + i) d := by
 rw [gtD, gtD, List.getElem?_drop]
theorem list_eq {α : Type} {l k : List α} {d : α} {n : Nat} (h1 : l.length = n) (h2 : k.length = n) (h : ∀ i, i < n → l.getD i d = k.getD i d) : l = k := by
 apply List.ext_getElem (by rw [h1, h2])
 intro i hi hi2
 have := h i (by omega)
 rw [gtD, gtD, geE hi, geE hi2] at this
 exact this
end Go.Proofs.YtifgcfepbenpjaaGreat
namespace Go.Proofs.YtifgcfepbenpjaaGreat
theorem ver_opts {S : List Sec} {C : List Pnd} {at_ : Int} (hS : ∀ s ∈ S, ∀ z ∈ s.2, isByte z) (hC : ∀ p ∈ C, ∀ z ∈ p.2, isByte z) (n : Nat) : 0 ≤ countTo (optsOf S C at_ n) n ∧ countTo (optsOf S C at_ n) n < 4294967296 :=
 count_bounds (fun i hi T hT => by
  rw [optsOf_get S C at_ hi] at hT
  unfold optAt at hT
  split at hT
  ·rename_i h0
   injection hT with hT
   subst hT
   obtain ⟨h32, hbb⟩ := rd_good h0 hS hC
   exact ver_bounds (by omega) hbb
  ·cases hT) _ (Nat.le_refl _)
end Go.Proofs.YtifgcfepbenpjaaGreat
namespace Go.Proofs.YtifgcfepbenpjaaGreat
theorem joinV_last {ps : List Prt} {k : Nat} (h : ps.length = k + 1) : joinV ps = (ps.getD k (0, [])).1 := by
 have hne : ps ≠ [] := by intro e; subst e; cases h
 have e := joinV_snoc ps.dropLast (ps.getLast hne)
 rw [List.dropLast_concat_getLast hne] at e
 rw [e, List.getLast_eq_getElem, gtD, geE (by omega)]
 simp [h]
theorem held_one {l : List (Option Txt)} : ∀ (k : Nat) (ps : List Prt), heldTo l k = some ps → ∀ i, i < k → ∃ T, l.getD i none = some T ∧ verOf T = joinV ps := by
 intro k
 induction k with
 | zero => intro ps _ i hi; omega
 | succ k ih =>
  intro ps h
  have hsm := heldTo_small h
  rw [heldTo] at h
  rcases h1 : heldTo l k with _ | qs
  ·rw [h1] at h; cases h
  ·rw [h1] at h
   dsimp only at h
   rcases h2 : partO k (l.getD k none) with _ | p
   ·rw [h2] at h; cases h
   ·rw [h2] at h
    dsimp only at h
    split at h
    ·rename_i hf
     injection h with h
     subst h
     rw [joinV_snoc]
     obtain ⟨T, hT, hv⟩ : ∃ T, l.getD k none = some T ∧ verOf T = p.1 := by
      rcases h3 : l.getD k none with _ | T
      ·rw [h3] at h2; cases h2
      ·rw [h3] at h2
       unfold partO at h2
       dsimp only at h2
       split at h2
       ·injection h2 with h2
        subst h2
        exact ⟨T, rfl, rfl⟩
       ·cases h2
     intro i hi
     rcases Nat.lt_or_ge i k with hik | hik
     ·obtain ⟨U, hU, hu⟩ := ih qs h1 i hik
      refine ⟨U, hU, ?_⟩
      obtain ⟨j, rfl⟩ : ∃ j, k = j + 1 := ⟨k - 1, by omega⟩
      have hl := (heldTo_small h1).1
      rcases hf with hf | hf
      ·omega
      ·rw [hu, joinV_last hl]
       exact hf.1.symm
     ·obtain rfl : i = k := by omega
      exact ⟨T, hT, hv⟩
    ·cases h
theorem slotV_pos {l : List (Option Txt)} (h : ∀ i T, i < l.length → l.getD i none = some T → 0 ≤ verOf T) : 0 ≤ slotV l := by
 unfold slotV
 rcases h1 : heldTo l l.length with _ | ps
 ·exact Int.le_refl 0
 ·dsimp only
  by_cases hp : ps = []
  ·subst hp; exact Int.le_refl 0
  ·obtain ⟨p, hp, e⟩ := joinV_mem hp
   obtain ⟨i, T, hi, e1, e2⟩ := held_from h1 p hp
   rw [e, e2]
   exact h i T hi e1
end Go.Proofs.YtifgcfepbenpjaaGreat
namespace Go.Proofs.YtifgcfepbenpjaaGreat
end Go.Proofs.YtifgcfepbenpjaaGreat
namespace Go.Proofs.YtifgcfepbenpjaaGreat
def mayT (P T A M W Q : Int) (S : List Sec) (C : List Pnd) : Prop := mayC P T A M W Q ∧ mayD S C = true ∧ (S.length : Int) = fE P T A
instance (P T A M W Q : Int) (S : List Sec) (C : List Pnd) : Decidable (mayT P T A M W Q S C) := by unfold mayT; infer_instance
def tcE (P T A M W Q : Int) (S : List Sec) (C : List Pnd) : Int := if mayT P T A M W Q S C then 0 else 8
theorem held_bytes {l : List (Option Txt)} : ∀ (k : Nat) (ps : List Prt), heldTo l k = some ps → (∀ i T, i < k → l.getD i none = some T → ∀ z ∈ T, isByte z) → ∀ p ∈ ps, ∀ z ∈ p.2, isByte z := by
 intro k
 induction k with
 | zero =>
  intro ps h _ p hp
  rw [heldTo] at h
  injection h with h
  subst h
  simp at hp
 | succ k ih =>
  intro ps h hl
  rw [heldTo] at h
  rcases h1 : heldTo l k with _ | qs
  ·rw [h1] at h; cases h
  ·rw [h1] at h
   dsimp only at h
   rcases h2 : partO k (l.getD k none) with _ | q
   ·rw [h2] at h; cases h
   ·rw [h2] at h
    dsimp only at h
    split at h
    ·injection h with h
     subst h
     intro p hp
     rcases List.mem_append.1 hp with hp | hp
     ·exact ih qs h1 (fun i T hi => hl i T (by omega)) p hp
     ·rw [List.mem_singleton] at hp
      subst hp
      rcases h3 : l.getD k none with _ | T
      ·rw [h3] at h2; cases h2
      ·rw [h3] at h2
       unfold partO at h2
       dsimp only at h2
       split at h2
       ·injection h2 with h2
        subst h2
        exact partB_byte (hl k T (by omega) h3)
       ·cases h2
    ·cases h
theorem slotB_byte {l : List (Option Txt)} (hl : ∀ i T, l.getD i none = some T → ∀ z ∈ T, isByte z) : ∀ z ∈ slotB l, isByte z := by
 unfold slotB
 rcases h : heldTo l l.length with _ | ps
 ·simp
 ·intro z hz
  dsimp only at hz
  unfold joinB at hz
  obtain ⟨x, hx, hzx⟩ := List.mem_flatten.1 hz
  obtain ⟨p, hp, rfl⟩ := List.mem_map.1 hx
  exact held_bytes _ ps h (fun i T _ => hl i T) p hp z hzx
theorem opts_byte {S : List Sec} {C : List Pnd} (hS : ∀ s ∈ S, ∀ z ∈ s.2, isByte z) (hC : ∀ p ∈ C, ∀ z ∈ p.2, isByte z) (a : Int) (n i : Nat) (T : Txt) (h : (optsOf S C a n).getD i none = some T) : ∀ z ∈ T, isByte z := by
 rcases Nat.lt_or_ge i n with hi | hi
 ·rw [optsOf_get S C a hi] at h
  unfold optAt at h
  split at h
  ·rename_i h0
   injection h with h
   subst h
   exact (rd_good h0 hS hC).2
  ·cases h
 ·rw [gtD, List.getElem?_eq_none (by rw [optsOf_length]; exact hi)] at h
  cases h
theorem crB_byte {S : List Sec} {C : List Pnd} (hS : ∀ s ∈ S, ∀ z ∈ s.2, isByte z) (hC : ∀ p ∈ C, ∀ z ∈ p.2, isByte z) (a wd : Int) : ∀ z ∈ crB S C a wd, isByte z := by
 unfold crB
 split
 ·unfold hB
  split
  ·exact slotB_byte fun i T h => opts_byte hS hC a (2 * wd.toNat) (wd.toNat + i) T (by rwa [getD_drop] at h)
  ·refine slotB_byte fun i T h => ?_
   rcases Nat.lt_or_ge i wd.toNat with hi | hi
   ·exact opts_byte hS hC a (2 * wd.toNat) i T (by rwa [getD_take hi] at h)
   ·rw [gtD, List.getElem?_eq_none (by rw [List.length_take]; omega)] at h
    cases h
 ·simp
end Go.Proofs.YtifgcfepbenpjaaGreat
namespace Go.Proofs.YtifgcfepbenpjaaGreat
def sz5 : List Int := [8, 1, 1, 1, 1]
def jrow (g n m : Int) : Txt := rowTo [g, 1, n, m, 0] sz5 5
def jT (g n : Int) (b : Txt) : Txt := jrow g n b.length ++ b ++ List.replicate (20 - b.length) 0
def isG (g : Int) : Prop := 0 ≤ g ∧ g < 18446744073709551616
def jtE (n : Int) (b : Txt) : Int := if 1 ≤ b.length ∧ b.length ≤ 20 then (if 0 ≤ n ∧ n ≤ 255 then 0 else 2) else 4
def noteT (g n : Int) (t : Txt) : Txt := if (1 ≤ t.getD 10 0 ∧ t.getD 10 0 ≤ 20) ∧ jT g n ((t.drop 12).take (t.getD 10 0).toNat) = t then (t.drop 12).take (t.getD 10 0).toNat else []
def noteO (g n : Int) : Option Txt → Txt
 | none => []
 | some t => noteT g n t
def jM (f : Nat → Txt) : Nat → Nat
 | 0 => 0
 | k + 1 => if jM f k = k ∧ f k ≠ [] then k + 1 else jM f k
def jN (f : Nat → Txt) (k : Nat) : List Txt := (List.range (jM f k)).map f
def jf (S : List Sec) (C : List Pnd) (A a g : Int) (n : Nat) : Txt := noteO g n (optAt S C (2 + a * A + (n : Int)))
def arJ (a : Int) : Prop := 0 ≤ a ∧ a ≤ 1
instance (a : Int) : Decidable (arJ a) := by unfold arJ; infer_instance
def jaE (P T A M W Q : Int) (S : List Sec) (C : List Pnd) (a : Int) : Int := if mayT P T A M W Q S C then (if arJ a then 0 else 2) else 8
def jsL (P T A M W Q : Int) (S : List Sec) (C : List Pnd) (a g : Int) : List Txt := if jaE P T A M W Q S C a = 0 then jN (jf S C A a g) A.toNat else []
theorem okB_sz5 : okB sz5 = true := by decide
theorem at_sz5 : atTo sz5 5 = 12 := by decide
theorem jrow_eq (g n m : Int) : jrow g n m = digs 8 g ++ [1, n % 256, m % 256, 0] := by
 have h : jrow g n m = (((([] ++ digs 8 g) ++ digs 1 1) ++ digs 1 n) ++ digs 1 m) ++ digs 1 0 := rfl
 rw [h]
 simp [digs]
theorem jrow_length (g n m : Int) : (jrow g n m).length = 12 := by rw [jrow_eq]; simp [digs_length]
theorem jrow_byte (g n m : Int) : ∀ z ∈ jrow g n m, isByte z := rowTo_byte _ _ _
theorem jT_byte (g n : Int) {b : Txt} (h : ∀ z ∈ b, isByte z) : ∀ z ∈ jT g n b, isByte z := fun z hz => by
 unfold jT at hz
 rcases List.mem_append.1 hz with hz | hz
 ·rcases List.mem_append.1 hz with hz | hz
  ·exact jrow_byte _ _ _ z hz
  ·exact h z hz
 ·rw [(List.mem_replicate.1 hz).2]; exact ⟨by decide, by decide⟩
theorem fits5 {g n m : Int} (hg : isG g) (hn : 0 ≤ n ∧ n < 256) (hm : 0 ≤ m ∧ m < 256) : fitsTo [g, 1, n, m, 0] sz5 5 = true := by
 have h1 : g / 256 ^ 8 = 0 := Int.ediv_eq_zero_of_lt hg.1 (by rw [show (256 : Int) ^ 8 = 18446744073709551616 by decide]; exact hg.2)
 have h2 : n / 256 ^ 1 = 0 := Int.ediv_eq_zero_of_lt hn.1 (by omega)
 have h3 : m / 256 ^ 1 = 0 := Int.ediv_eq_zero_of_lt hm.1 (by omega)
 show (((((true && decide (g / 256 ^ 8 = 0)) && decide ((1 : Int) / 256 ^ 1 = 0)) && decide (n / 256 ^ 1 = 0)) && decide (m / 256 ^ 1 = 0)) && decide ((0 : Int) / 256 ^ 1 = 0)) = true
 rw [h1, h2, h3]
 decide
theorem jT_tells {g n : Int} {b : Txt} (hg : isG g) (hn : 0 ≤ n ∧ n ≤ 255) (hb : b.length ≤ 20) :
  val ((jT g n b).take 8) = g ∧ (jT g n b).getD 9 0 = n ∧ (jT g n b).getD 10 0 = (b.length : Int) ∧ ((jT g n b).drop 12).take b.length = b := by
 have e8 : (digs 8 g).length = 8 := digs_length _ _
 have v8 : val (digs 8 g) = g := val_digs _ _ hg.1 (Int.ediv_eq_zero_of_lt hg.1 (by rw [show (256 : Int) ^ 8 = 18446744073709551616 by decide]; exact hg.2))
 have hT : jT g n b = digs 8 g ++ ([1, n % 256, (b.length : Int) % 256, 0] ++ (b ++ List.replicate (20 - b.length) 0)) := by
  unfold jT
  rw [jrow_eq]
  simp only [List.append_assoc]
 refine ⟨?_, ?_, ?_, ?_⟩
 ·rw [hT, List.take_append_of_le_length (by omega), List.take_of_length_le (by omega), v8]
 ·rw [hT, gtD, List.getElem?_append_right (by omega), e8]
  simp
  omega
 ·rw [hT, gtD, List.getElem?_append_right (by omega), e8]
  simp
  omega
 ·unfold jT
  rw [List.append_assoc, List.drop_append, jrow_length, List.drop_of_length_le (by rw [jrow_length]; exact Nat.le_refl _)]
  simp
theorem noteT_few (g n : Int) (t : Txt) : (noteT g n t).length ≤ 20 := by
 unfold noteT
 split
 ·rename_i h
  rw [List.length_take]
  have := Nat.min_le_left (t.getD 10 0).toNat (t.drop 12).length
  omega
 ·exact Nat.zero_le _
theorem noteT_byte (g n : Int) {t : Txt} (h : ∀ z ∈ t, isByte z) : ∀ z ∈ noteT g n t, isByte z := fun z hz => by
 unfold noteT at hz
 split at hz
 ·exact h z (List.mem_of_mem_drop (List.mem_of_mem_take hz))
 ·cases hz
theorem jM_le (f : Nat → Txt) (k : Nat) : jM f k ≤ k := by
 induction k with
 | zero => exact Nat.le_refl _
 | succ k ih => unfold jM; split <;> omega
theorem jM_have (f : Nat → Txt) (k : Nat) : ∀ j, j < jM f k → f j ≠ [] := by
 induction k with
 | zero => intro j h; exact absurd h (Nat.not_lt_zero _)
 | succ k ih =>
  intro j h
  unfold jM at h
  split at h
  ·rename_i h1
   rcases Nat.lt_or_ge j k with h2 | h2
   ·exact ih j (by omega)
   ·obtain rfl : j = k := by omega
    exact h1.2
  ·exact ih j h
theorem jM_end (f : Nat → Txt) (k : Nat) : jM f k = k ∨ f (jM f k) = [] := by
 induction k with
 | zero => exact .inl rfl
 | succ k ih =>
  by_cases h : jM f k = k ∧ f k ≠ []
  ·left; unfold jM; rw [if_pos h]
  ·have e : jM f (k + 1) = jM f k := by rw [jM, if_neg h]
   rw [e]
   right
   rcases ih with h1 | h1
   ·rw [h1]
    exact Classical.byContradiction fun h2 => h ⟨h1, h2⟩
   ·exact h1
theorem jM_is {f : Nat → Txt} {k m : Nat} (h1 : m ≤ k) (h2 : ∀ j, j < m → f j ≠ []) (h3 : m = k ∨ f m = []) : jM f k = m := by
 have a1 := jM_le f k
 have a2 := jM_have f k
 have a3 := jM_end f k
 rcases Nat.lt_trichotomy (jM f k) m with h | h | h
 ·rcases a3 with a | a
  ·omega
  ·exact absurd a (h2 _ h)
 ·exact h
 ·rcases h3 with b | b
  ·omega
  ·exact absurd b (a2 _ h)
theorem jN_length (f : Nat → Txt) (k : Nat) : (jN f k).length = jM f k := by unfold jN; rw [List.length_map, List.length_range]
theorem jN_get (f : Nat → Txt) (k : Nat) {j : Nat} (h : j < jM f k) : (jN f k)[j]? = some (f j) := by
 unfold jN
 rw [List.getElem?_map, List.getElem?_range h]
 rfl
theorem at_area {P T A M W Q : Int} {S : List Sec} {C : List Pnd} (h : mayT P T A M W Q S C) {a : Int} (ha : arJ a) {n : Nat} (hn : (n : Int) < A) : 0 ≤ 2 + a * A + (n : Int) ∧ 2 + a * A + (n : Int) < (S.length : Int) := by
 obtain ⟨h1, h2, h3⟩ := h
 obtain ⟨b1, b2, b3, b4, b5, b6, b7⟩ := bounds_may h1
 obtain ⟨c1, c2, c3, c4, c5, c6, c7⟩ := h1
 unfold fE at h3
 have e : a * A = 0 ∨ a * A = A := by
  unfold arJ at ha
  rcases (show a = 0 ∨ a = 1 by omega) with r | r
  ·rw [r]; left; simp
  ·rw [r]; right; simp
 rcases e with e | e <;> rw [e] <;> omega
end Go.Proofs.YtifgcfepbenpjaaGreat
namespace Go.Proofs.YtifgcfepbenpjaaGreat
open Go.RowKit
theorem run_append_made {P : Program} (w : World) (t tx ty e : TypeId) (i : TypeInfo) (z : Value) (ht : P.underlying t = some (.slice e)) (htx : P.underlying tx = some (.int .i64)) (hi : P.info? e = some i) (hz : i.zero = some z) (base : Option Addr) (sLen sCap : Nat) (olds : List Value)
  (hold : (Builtin.firstCells i.size sLen (.slice base sLen sCap)).run P w.drew = .ok olds.toArray w.drew) (n : Nat) (hn0 : 0 < n) (hs0 : 0 < i.size) (hsz : n ≤ 1000) (hb : i.bytes ≤ 1000)
  (hg : sCap < sLen + n) (h63 : ((sLen + n : Nat) : Int) ≤ 9223372036854775807) (hfit : Builtin.nextslicecap (sLen + n) sCap * i.bytes ≤ 281474976710656) :
  (Builtin.append_ #[t, tx] ty #[.slice base sLen sCap, .int .i64 (n : Int)]).run P w =
   .ok (.slice (some ⟨w.heap.size, 0, none⟩) (sLen + n) (grownCap w (sLen + n) sCap e))
    (w.drew.alloc (.cells (olds.toArray ++ Builtin.zeroCells z.cells n ++ Builtin.zeroCells z.cells (grownCap w (sLen + n) sCap e - (sLen + n))) e)) := by
 have hn : ¬ (sLen + n ≤ sCap) := by omega
 have h63' : ¬ (9223372036854775807 < ((sLen : Int) + (n : Int))) := by omega
 have h48' : ¬ (281474976710656 < Builtin.nextslicecap (sLen + n) sCap * i.bytes) := by omega
 have hw : IntKind.i64.wrap (n : Int) = (n : Int) := Lib.wrap_i64_small n (by omega)
 have hnn : ¬ ((n : Int) < 0) := by omega
 have hmul : ¬ ((281474976710656 : Int) < (n : Int) * (i.bytes : Int)) := by
  have h1 : n * i.bytes ≤ 1000 * 1000 := Nat.mul_le_mul hsz hb
  have h2 : ((n * i.bytes : Nat) : Int) = (n : Int) * (i.bytes : Int) := Int.natCast_mul n i.bytes
  omega
 have hne : n ≠ 0 := by omega
 have hse : i.size ≠ 0 := by omega
 simp [Builtin.append_, run_underlying ht, run_underlying htx, sizeOf, typeInfo, zeroValue, hi, hz, hn, h63', h48', Question.forced, hold, newRow, grownCap, hw, hnn, hmul, asInt, asIntOf]
 intro h
 exact absurd h (Nat.mul_ne_zero hne hse)
abbrev noteV (g n : Int) (A : Option Addr) (k c : Nat) : Value := .iface 219 (.agg #[.int .u64 g, .int .i64 n, .slice A k c])
abbrev faultV (E : Int) : Value := .iface 220 (.int .i64 E)
theorem noteof_yes (g n : Int) (A : Option Addr) (k c : Nat) (w : World) (h1 : 1 ≤ k) (h20 : k ≤ 20) (hn : 0 ≤ n ∧ n ≤ 255) :
  Calls Tryz.prog 179 #[.int .u64 g, .int .i64 n, .slice A k c] w fun e w' => e = .returned (noteV g n A k c) ∧ w' = w := by
 have a1 : ¬ ((k : Int) < 1) := by omega
 have a2 : ¬ (20 < (k : Int)) := by omega
 have a3 : ¬ (n < 0) := by omega
 have a4 : ¬ (255 < n) := by omega
 go_enter Tryz.func179, Tryz.ntmps179
 go_wp2
 go_ret
 exact ⟨rfl, rfl⟩
theorem noteof_no (g n : Int) (A : Option Addr) (k c : Nat) (b : Txt) (w : World) (hk : b.length = k) (hE : jtE n b ≠ 0) :
  Calls Tryz.prog 179 #[.int .u64 g, .int .i64 n, .slice A k c] w fun e w' => e = .returned (faultV (jtE n b)) ∧ w' = w := by
 unfold jtE at hE ⊢
 rw [hk] at hE ⊢
 by_cases h1 : 1 ≤ k ∧ k ≤ 20
 ·rw [if_pos h1] at hE ⊢
  have hn : ¬ (0 ≤ n ∧ n ≤ 255) := fun h => hE (if_pos h)
  rw [if_neg hn]
  have a1 : ¬ ((k : Int) < 1) := by omega
  have a2 : ¬ (20 < (k : Int)) := by omega
  clear hE hk
  by_cases h3 : n < 0
  ·clear hn h1
   go_enter Tryz.func179, Tryz.ntmps179
   go_wp2
   go_ret
   exact ⟨rfl, rfl⟩
  ·have a4 : 255 < n := by omega
   clear hn h1
   go_enter Tryz.func179, Tryz.ntmps179
   go_wp2
   go_ret
   exact ⟨rfl, rfl⟩
 ·rw [if_neg h1]
  clear hE hk
  by_cases h3 : (k : Int) < 1
  ·clear h1
   go_enter Tryz.func179, Tryz.ntmps179
   go_wp2
   go_ret
   exact ⟨rfl, rfl⟩
  ·have a2 : 20 < (k : Int) := by omega
   clear h1
   go_enter Tryz.func179, Tryz.ntmps179
   go_wp2
   go_ret
   exact ⟨rfl, rfl⟩
theorem jsizes_any (w : World) : Calls Tryz.prog 188 #[] w fun e w' => ∃ g, e = .returned (.slice (some ⟨g, 0, none⟩) 5 5) ∧ Arg w' .i64 (some ⟨g, 0, none⟩) 5 5 sz5 ∧ Below w.heap.size w w' := by
 have hml : 5 ≤ maxLen := by decide
 have HA := Lh (show Arg (w.alloc (.cells #[.int .i64 8, .int .i64 1, .int .i64 1, .int .i64 1, .int .i64 1] 3)) .i64 (some ⟨w.heap.size, 0, none⟩) 5 5 sz5 from ⟨lit_row w 3 .i64 sz5 _ _ _ rfl rfl (by simp), rfl, Nat.le_refl _, hml⟩)
 go_enter Tryz.func188, Tryz.ntmps188
 go_wp2
 go_ret
 exact ⟨_, rfl, HA.out, (Below.refl _ _).alloc (Nat.le_refl _) _⟩
theorem ftext_any (E : Int) (w : World) : Calls Tryz.prog 231 #[.int .i64 E] w fun e w' => e = .returned (.tuple #[.slice none 0 0, .int .i64 E]) ∧ w' = w := by
 go_enter Tryz.func231, Tryz.ntmps231
 go_wp2
 go_ret2
 exact ⟨rfl, rfl⟩
theorem jsplice_row (g n m : Int) : splice (ints .u8 noughts) 0 (ints .u8 (jrow g n m)) = ints .u8 (jrow g n m ++ List.replicate 20 0) := by
 have hl : (jrow g n m).length = 12 := jrow_length g n m
 simp [splice, ints, noughts, hl]
theorem jsplice_part (r b : Txt) (hr : r.length = 12) (hb : b.length ≤ 20) : splice (ints .u8 (r ++ List.replicate 20 0)) 12 (ints .u8 b) = ints .u8 (r ++ b ++ List.replicate (20 - b.length) 0) := by
 have h1 : (ints .u8 (r ++ List.replicate 20 0)).take 12 = ints .u8 r := by
  unfold ints
  rw [← List.map_take, List.take_append_of_le_length (by omega), List.take_of_length_le (by omega)]
 have h2 : (ints .u8 (r ++ List.replicate 20 0)).drop (12 + (ints .u8 b).length) = ints .u8 (List.replicate (20 - b.length) 0) := by
  rw [ints_length]
  unfold ints
  rw [← List.map_drop, List.drop_append, List.drop_of_length_le (by omega), List.nil_append, List.drop_replicate, show 20 - (12 + b.length - r.length) = 20 - b.length from by omega]
 unfold splice
 rw [h1, h2]
 simp [ints]
theorem nums_note (w : World) (g n : Int) (k : Nat) (b B : Nat) (hb : b = w.heap.size) (hB : w.heap.size < B) : Seq (w.alloc (.cells #[.int .u64 g, .int .u64 1, .int .u64 n, .int .u64 (k : Int), .int .u64 0] 27)) B (some ⟨b, 0, none⟩) (ints .u64 [g, 1, n, (k : Int), 0]) := lit_row w 27 .u64 [g, 1, n, (k : Int), 0] _ _ _ rfl hb hB
theorem ntext_any (g n : Int) (hg : isG g) (hn : 0 ≤ n ∧ n ≤ 255) (A : Option Addr) (k c : Nat) (b : Txt) (w : World) (hb : Arg w .u8 A k c b) (hk : k ≤ 20) :
  Calls Tryz.prog 230 #[.agg #[.int .u64 g, .int .i64 n, .slice A k c]] w fun e w' => ∃ G, e = .returned (.tuple #[.slice (some ⟨G, 0, none⟩) 32 32, .int .i64 0]) ∧ w'.ownsRow w.heap.size 5 1 (.slice (some ⟨G, 0, none⟩) 32 32) 32 (ints .u8 (jT g n b)) ∧ Below w.heap.size w w' := by
 have x := Blk.new w 219 [.int .u64 g, .int .i64 n, .slice A k c]
 have hbel : Below w.heap.size w (w.alloc (.cells #[.int .u64 g, .int .i64 n, .slice A k c] 219)) := (Below.refl _ _).alloc (Nat.le_refl _) _
 have hlen := hb.len
 have FT := Lh (show fitsTo [g, 1, n, (k : Int), 0] sz5 sz5.length = true from fits5 hg ⟨hn.1, by omega⟩ ⟨by omega, by omega⟩)
 obtain ⟨hg0, hg1⟩ := hg
 have W1 := Lh (show ∀ z ∈ [g, 1, n, (k : Int), 0], isWord z by
  intro z hz
  simp only [List.mem_cons, List.not_mem_nil, or_false] at hz
  unfold isWord
  rcases hz with rfl | rfl | rfl | rfl | rfl <;> omega)
 have X := Lh x
 have BL := Lh hbel
 have HB := Lh (hb.below hbel)
 have e2 : IntKind.u64.wrap n = n := wraps_u64 n hn.1 (by omega)
 have e3 : IntKind.u64.wrap (k : Int) = (k : Int) := wraps_u64 _ (by omega) (by omega)
 have HJ := Lh (show jT g n b = jrow g n k ++ b ++ List.replicate (20 - b.length) 0 by unfold jT; rw [hlen])
 rw [HJ.out]
 have HLB := Lh (show b.length ≤ 20 by omega)
 clear x hbel hg0 hg1 hn hb HJ
 go_enter Tryz.func230, Tryz.ntmps230
 go_upto_region 1 with fail
 obtain ⟨v1, hW⟩ : ∃ x : World, x = w.alloc (.cells #[.int .u64 g, .int .i64 n, .slice A k c] 219) := ⟨_, rfl⟩
 rw [← hW] at X BL HB ⊢
 have hlt : w.heap.size < v1.heap.size := X.out.lt
 clear hW
 have hcur : Below v1.heap.size v1 v1.drew := below_drewN (Below.refl _ _) 1
 have keepX : ∀ wx, Below v1.heap.size v1 wx → wx.cell? ⟨w.heap.size, 0, none⟩ = some (.int .u64 g) ∧ wx.cell? ⟨w.heap.size, 1, none⟩ = some (.int .i64 n) ∧ wx.cell? ⟨w.heap.size, 2, none⟩ = some (.slice A k c) := fun wx hx => by
  have z := X.out.below hx hlt
  exact ⟨z.cell 0, z.cell 1, z.cell 2⟩
 have hkX := keepX _ hcur
 go_region_held3 (fun wx => wx.cell? ⟨w.heap.size, 0, none⟩ = some (.int .u64 g) ∧ wx.cell? ⟨w.heap.size, 1, none⟩ = some (.int .i64 n) ∧ wx.cell? ⟨w.heap.size, 2, none⟩ = some (.slice A k c))
  (first | exact hkX | exact keepX _ (hcur.alloc hcur.size _) | exact keepX _ (below_drewN ((Below.refl _ _).alloc (Nat.le_refl _) _) 1) | go_keep)
  (first
   | (go_at_call 188; with_reducible refine (jsizes_any v1.drew).mono ?_; rintro e wS ⟨gS, rfl, hAS, hbS⟩; have hcur := hcur.trans (hbS.mono hcur.size); have hkX := keepX _ hcur)
   | (go_at_call 188; have hL := nums_note v1 g n k v1.heap.size (v1.heap.size + 1) rfl (Nat.lt_succ_self _); have hcur : Below v1.heap.size v1 (v1.alloc (.cells #[.int .u64 g, .int .u64 1, .int .u64 n, .int .u64 (k : Int), .int .u64 0] 27)).drew := below_drewN ((Below.refl _ _).alloc (Nat.le_refl _) _) 1; have hL : Seq (v1.alloc (.cells #[.int .u64 g, .int .u64 1, .int .u64 n, .int .u64 (k : Int), .int .u64 0] 27)).drew (v1.heap.size + 1) (some ⟨v1.heap.size, 0, none⟩) (ints .u64 [g, 1, n, (k : Int), 0]) := hL.keep fun _ _ => rfl; with_reducible refine (jsizes_any _).mono ?_; rintro e wS ⟨gS, rfl, hAS, hbS⟩; have hL := (hL.below (hbS.mono (by simp))).more (B' := wS.heap.size) (Nat.le_trans (by simp) hbS.size); have hcur := hcur.trans (hbS.mono hcur.size); have hkX := keepX _ hcur)
   | (go_at_call 74; with_reducible refine (write_ok (some ⟨v1.heap.size, 0, none⟩) (some ⟨gS, 0, none⟩) 5 5 5 5 [g, 1, n, (k : Int), 0] sz5 _ hAS.seq rfl okB_sz5 hL rfl rfl W1.out).mono ?_; intro e w2 hout; have hM := hcur.size; obtain ⟨A2, c2, rfl, hown, hb⟩ := (WroteOut.yes hout FT.out).len (zs' := jrow g n k) (n := 12) rfl (jrow_length _ _ _); have hcur := hcur.trans (hb.mono hcur.size); have hkX := keepX _ hcur)
   | (go_at_call 74; have hL := nums_note wS g n k wS.heap.size (wS.heap.size + 1) rfl (Nat.lt_succ_self _); have hL := hL.more (B' := (wS.alloc (.cells #[.int .u64 g, .int .u64 1, .int .u64 n, .int .u64 (k : Int), .int .u64 0] 27)).heap.size) (by simp); have hAS := hAS.below ((Below.refl wS.heap.size wS).alloc (Nat.le_refl _) (.cells #[.int .u64 g, .int .u64 1, .int .u64 n, .int .u64 (k : Int), .int .u64 0] 27)); have hcur := hcur.alloc hcur.size (.cells #[.int .u64 g, .int .u64 1, .int .u64 n, .int .u64 (k : Int), .int .u64 0] 27); with_reducible refine (write_ok (some ⟨wS.heap.size, 0, none⟩) (some ⟨gS, 0, none⟩) 5 5 5 5 [g, 1, n, (k : Int), 0] sz5 _ hAS.seq rfl okB_sz5 hL rfl rfl W1.out).mono ?_; intro e w2 hout; have hM := hcur.size; obtain ⟨A2, c2, rfl, hown, hb⟩ := (WroteOut.yes hout FT.out).len (zs' := jrow g n k) (n := 12) rfl (jrow_length _ _ _); have hcur := hcur.trans (hb.mono hcur.size); have hkX := keepX _ hcur))
 all_goals (
  have B2 := Lh (BL.out.trans (hcur.mono BL.out.size))
  have X2 := Lh (X.out.below hcur hlt)
  have HB2 := Lh (HB.out.below hcur)
  have R2 := Lh (Arg.own hown)
  have hG0 := Nat.le_trans BL.out.size hcur.size
  clear hcur hkX keepX hM hb hown FT W1 X BL HB hAS
  have hmk := make_bytes 32 (by decide) w2
  rw [show ((32 : Nat) : Int) = 32 from rfl] at hmk
  have y := Blk.new w2 5 (List.replicate 32 (.int .u8 0))
  rw [noughts_ints] at y
  have hbl1 : Below w2.heap.size w2 (w2.alloc (.cells (List.replicate 32 (.int .u8 0)).toArray 5)) := (Below.refl _ _).alloc (Nat.le_refl _) _
  rw [noughts_ints] at hmk hbl1
  obtain ⟨v2, hV⟩ : ∃ x : World, x = w2.alloc (.cells (ints .u8 noughts).toArray 5) := ⟨_, rfl⟩
  rw [← hV] at hmk y hbl1
  have Y := Lh y
  have R3 := Lh (R2.out.below hbl1)
  have BV := Lh hbl1
  have HG := Lh hG0
  have HLEN := Lh (show (ints .u8 (jrow g n k)).length = Nat.min 12 32 by rw [ints_length, jrow_length]; decide)
  have HFIT := Lh (show 0 + (ints .u8 (jrow g n k)).length ≤ (ints .u8 noughts).length by rw [ints_length, ints_length, jrow_length]; decide)
  have HLE2 := Lh (show (ints .u8 b).length = Nat.min k 20 by rw [ints_length, HB2.out.len]; exact (Nat.min_eq_left hk).symm)
  have HFI2 := Lh (show 12 + (ints .u8 b).length ≤ (ints .u8 (jrow g n k ++ List.replicate 20 0)).length by rw [ints_length, ints_length, HB2.out.len, List.length_append, jrow_length, List.length_replicate]; omega)
  clear hV hbl1 y R2 hG0
  go_wp2_with (with_reducible refine wpList_copy_seq (o := ⟨some 25, _, _, _, _, _⟩) rfl (.tmp 23) (.tmp 24) _ _ rfl 5 Tryz.underlying42 byte_size A2 w2.heap.size 0 32 32 12 c2 rfl rfl (ints .u8 noughts) 5 Y.out (ints .u8 (jrow g n k)) HLEN.out _ R3.out.seq HFIT.out (ints_one _ _) w2.heap.size w2 BV.out (Nat.le_refl _) ?_; intro w4 HG4 hB4)
  have X4 := Lh (X2.out.below hB4 X2.out.lt)
  have R4 := Lh (HB2.out.below hB4)
  have Y4 := HG4.out
  rw [jsplice_row] at Y4
  have Y4 := Lh Y4
  have B4 := Lh hB4
  have q2 := X4.out.cell 2
  simp only [gcZ, gcS] at q2
  clear HG4 hB4 hmk R3 Y BV HLEN HFIT
  go_still_tail 4, (by kernel_rfl)
  change wpList _ _ _ _ _ w4.drew
  have YD := Lh (show Blk w4.drew w2.heap.size 5 (ints .u8 (jrow g n k ++ List.replicate 20 0)) from Y4.out)
  have RD := Lh (show Seq w4.drew w4.heap.size A (ints .u8 b) from R4.out.seq.keep fun _ _ => rfl)
  have BD := Lh (show Below w.heap.size w w4.drew from below_drewN (B2.out.trans (B4.out.mono B2.out.size)) 1)
  clear X4 q2 Y4 R4 B2 B4 X2 HB2
  go_wp2_with (with_reducible refine wpList_copy_seq (o := ⟨some 30, _, _, _, _, _⟩) rfl (.tmp 27) (.tmp 29) _ _ rfl 5 Tryz.underlying42 byte_size A w2.heap.size 12 20 20 k c rfl rfl (ints .u8 (jrow g n k ++ List.replicate 20 0)) 5 YD.out (ints .u8 b) HLE2.out _ RD.out HFI2.out (ints_one _ _) w.heap.size w BD.out HG.out ?_; intro w5 HG5 hB5)
  go_ret2
  have hb5 := HG5.out
  rw [jsplice_part _ _ (jrow_length _ _ _) HLB.out] at hb5
  exact ⟨w2.heap.size, rfl, hb5.owns HG.out (by rw [ints_length]; have := HLB.out; simp only [List.length_append, jrow_length, List.length_replicate]; omega) (by decide), hB5⟩)
def rdM (t : Txt) : Nat := min (t.getD 10 0).toNat 20
def rdTx (t : Txt) : Txt := (t.drop 12).take (rdM t)
def rdOk (t : Txt) : Prop := 1 ≤ t.getD 10 0 ∧ jT (val (t.take 8)) (t.getD 9 0) (rdTx t) = t
theorem rdM_le (t : Txt) : rdM t ≤ 20 := Nat.min_le_right _ _
theorem rdTx_length {t : Txt} (h : t.length = 32) : (rdTx t).length = rdM t := by
 unfold rdTx
 rw [List.length_take, List.length_drop, h]
 have := rdM_le t
 omega
theorem rdTx_byte {t : Txt} (h : ∀ z ∈ t, isByte z) : ∀ z ∈ rdTx t, isByte z := fun z hz => h z (List.mem_of_mem_drop (List.mem_of_mem_take hz))
theorem nums5_eq (t : Txt) (ht : t.length = 32) : numsTo (t.take 12) sz5 5 = [val (t.take 8), t.getD 8 0, t.getD 9 0, t.getD 10 0, t.getD 11 0] := by
 have h : numsTo (t.take 12) sz5 5 = (((([] ++ [val (((t.take 12).drop 0).take 8)]) ++ [val (((t.take 12).drop 8).take 1)]) ++ [val (((t.take 12).drop 9).take 1)]) ++ [val (((t.take 12).drop 10).take 1)]) ++ [val (((t.take 12).drop 11).take 1)] := rfl
 rw [h]
 simp only [List.drop_take, List.take_take, List.drop_zero, List.nil_append, List.cons_append]
 show [val (t.take 8), val ((t.drop 8).take 1), val ((t.drop 9).take 1), val ((t.drop 10).take 1), val ((t.drop 11).take 1)] = _
 rw [val_one (by omega), val_one (by omega), val_one (by omega), val_one (by omega)]
theorem gen_of {t : Txt} (ht : t.length = 32) (hb : ∀ z ∈ t, isByte z) : isG (val (t.take 8)) := by
 have h := val_bounds (t.take 8) fun z hz => hb z (List.mem_of_mem_take hz)
 rw [List.length_take, ht] at h
 have h8 : (256 : Int) ^ (min 8 32) = 18446744073709551616 := by decide
 rw [h8] at h
 exact h
theorem rd_note {t : Txt} (ht : t.length = 32) (hb : ∀ z ∈ t, isByte z) {g n : Int} (hg : isG g) (hn : 0 ≤ n ∧ n ≤ 255) :
  (rdOk t → noteT g n t = if g = val (t.take 8) ∧ n = t.getD 9 0 then rdTx t else []) ∧ (¬ rdOk t → noteT g n t = []) := by
 have hmb := byte_getD hb 10
 unfold isByte at hmb
 have hkey : ∀ g' n' : Int, isG g' → (0 ≤ n' ∧ n' ≤ 255) → ∀ b : Txt, b.length ≤ 20 → jT g' n' b = t → g' = val (t.take 8) ∧ n' = t.getD 9 0 ∧ t.getD 10 0 = (b.length : Int) ∧ (t.drop 12).take b.length = b := fun g' n' hg' hn' b hb' e => by
  obtain ⟨a1, a2, a3, a4⟩ := jT_tells hg' hn' hb'
  rw [e] at a1 a2 a3 a4
  exact ⟨a1.symm, a2.symm, a3, a4⟩
 have hlen := rdTx_length ht
 have hle := rdM_le t
 have hyes : 1 ≤ t.getD 10 0 ∧ t.getD 10 0 ≤ 20 → rdTx t = (t.drop 12).take (t.getD 10 0).toNat := fun h => by
  unfold rdTx rdM
  rw [Nat.min_eq_left (by omega)]
 refine ⟨fun h => ?_, fun h => ?_⟩
 ·obtain ⟨k1, k2, k3, k4⟩ := hkey _ _ (gen_of ht hb) (by have := byte_getD hb 9; unfold isByte at this; omega) (rdTx t) (by omega) h.2
  have hr : 1 ≤ t.getD 10 0 ∧ t.getD 10 0 ≤ 20 := ⟨h.1, by omega⟩
  by_cases he : g = val (t.take 8) ∧ n = t.getD 9 0
  ·rw [if_pos he]
   unfold noteT
   rw [← hyes hr, he.1, he.2, if_pos ⟨hr, h.2⟩]
  ·rw [if_neg he]
   unfold noteT
   rw [← hyes hr, if_neg]
   rintro ⟨_, h2⟩
   obtain ⟨j1, j2, _⟩ := hkey g n hg hn _ (by omega) h2
   exact he ⟨j1, j2⟩
 ·unfold noteT
  rw [if_neg]
  rintro ⟨h1, h2⟩
  rw [← hyes h1] at h2
  obtain ⟨j1, j2, _⟩ := hkey g n hg hn _ (by omega) h2
  rw [j1, j2] at h2
  exact h ⟨h1.1, h2⟩
end Go.Proofs.YtifgcfepbenpjaaGreat
