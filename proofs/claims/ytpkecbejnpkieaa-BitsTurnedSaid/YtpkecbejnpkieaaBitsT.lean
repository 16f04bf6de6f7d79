/- Layer 3, package bits: two sets put together, page by page, by a closure: Or, Minus, Put. -/
import Derived.Test.YtpkecbejnpkieaaBitsO
namespace Go.Proofs.Ytpkecbejnpkieaa
open Go.RowKit
set_option linter.unusedVariables false

theorem box_new (w : World) (v : Value) (t : TypeId) : (w.alloc (.cells #[v] t)).cell? ⟨w.heap.size, 0, none⟩ = some v := (Blk.new w t [v]).cell 0
theorem box_free (w : World) (v : Value) (t : TypeId) : (w.alloc (.cells #[v] t)).frozen? ⟨w.heap.size, 0, none⟩ = false := (Blk.new w t [v]).free 0

/-- A page of each put together. -/
def orPg (a b : List Int) (p : Nat) : Int := ((pg a p ||| pg b p : Nat) : Int)
def minusPg (a b : List Int) (p : Nat) : Int := ((pg a p &&& (255 - pg b p) : Nat) : Int)
/-- A set's pages, as far as they have been told. -/
def pgTo (m : Nat) (g : Nat → Int) : Nat → List Int
  | 0 => none0 m
  | k + 1 => (pgTo m g k).set k (g k)

/-- Two boxes, and the two rows that they hold. -/
structure Pair (w : World) (P Q : Nat) (n : Nat) (a b : List Int) : Prop where
  box : ∃ A n1 c1 A' n2 c2, w.cell? ⟨P, 0, none⟩ = some (.slice A n1 c1) ∧ w.cell? ⟨Q, 0, none⟩ = some (.slice A' n2 c2) ∧ Arg w .u8 A n1 c1 a ∧ Arg w .u8 A' n2 c2 b
  one : a.length = n
  two : b.length = n
  lt1 : P < w.heap.size
  lt2 : Q < w.heap.size

theorem pgTo_length (m : Nat) (g : Nat → Int) (k : Nat) : (pgTo m g k).length = pgs m := by
  induction k with
  | zero => simp [pgTo, none0]
  | succ k ih => simp [pgTo, ih]
theorem pgTo_get (m : Nat) (g : Nat → Int) (k : Nat) (hk : k ≤ pgs m) (p : Nat) : (pgTo m g k).getD p 0 = if p < k then g p else 0 := by
  induction k with
  | zero =>
    simp only [pgTo, none0, List.getD_eq_getElem?_getD, List.getElem?_replicate]
    split <;> rfl
  | succ k ih =>
    have ih := ih (by omega)
    rw [List.getD_eq_getElem?_getD] at ih ⊢
    simp only [pgTo, List.getElem?_set]
    by_cases h : k = p
    · subst h
      simp [pgTo_length, show k < pgs m by omega]
    · rw [if_neg h, ih]
      rcases Nat.lt_or_ge p k with h1 | h1
      · rw [if_pos h1, if_pos (by omega)]
      · rw [if_neg (by omega), if_neg (by omega)]
theorem pgTo_all (m : Nat) (g : Nat → Int) (F : Nat → Bool) (hg : ∀ p, p < pgs m → isByte (g p)) (hF : ∀ t, t < 8 * pgs m → (g (t / 8)).toNat.testBit (t % 8) = F t) (hout : ∀ t, m ≤ t → F t = false) : pgTo m g (pgs m) = made m F := by
  have hp : ∀ p, pg (pgTo m g (pgs m)) p = if p < pgs m then (g p).toNat else 0 := fun p => by
    unfold pg; rw [pgTo_get m g _ (Nat.le_refl _)]; split <;> rfl
  have hh : ∀ t, t < 8 * pgs m → hasT (pgTo m g (pgs m)) t = F t := fun t ht => by
    unfold hasT; rw [hp, if_pos (by omega)]; exact hF t ht
  refine (made_eq ⟨pgTo_length _ _ _, ?_, fun t ht => ?_⟩ F fun t ht => hh t (by unfold pgs; omega)).symm
  · intro z hz
    obtain ⟨i, hi, rfl⟩ := List.getElem_of_mem hz
    have e := pgTo_get m g _ (Nat.le_refl _) i
    rw [pgTo_length] at hi
    rw [if_pos hi] at e
    have := hg i hi
    rw [← e] at this
    simpa [List.getD_eq_getElem?_getD, pgTo_length, hi] using this
  · rcases Nat.lt_or_ge t (8 * pgs m) with h | h
    · rw [hh t h, hout t ht]
    · exact hasT_beyond _ (by rw [pgTo_length]; exact h)
theorem or_all {m : Nat} {a b : List Int} (ha : IsSet m a) (hb : IsSet m b) : pgTo m (orPg a b) (pgs m) = made m (fun u => hasT a u || hasT b u) := by
  refine pgTo_all m _ _ (fun p _ => ?_) (fun t _ => ?_) fun t ht => ?_
  · have := or_byte (pg_lt ha.byte p) (pg_lt hb.byte p)
    unfold orPg
    exact ⟨by omega, by omega⟩
  · unfold orPg hasT
    rw [Int.toNat_natCast, Nat.testBit_or]
  · rw [ha.out t ht, hb.out t ht]; rfl
theorem minus_all {m : Nat} {a b : List Int} (ha : IsSet m a) (hb : IsSet m b) : pgTo m (minusPg a b) (pgs m) = made m (fun u => hasT a u && !hasT b u) := by
  refine pgTo_all m _ _ (fun p _ => ?_) (fun t _ => ?_) fun t ht => ?_
  · have : pg a p &&& (255 - pg b p) ≤ pg a p := Nat.and_le_left
    have := pg_lt ha.byte p
    unfold minusPg
    exact ⟨by omega, by omega⟩
  · unfold minusPg hasT
    have := Nat.testBit_two_pow_sub_succ (x := pg b (t / 8)) (n := 8) (pg_lt hb.byte _) (t % 8)
    rw [Int.toNat_natCast, Nat.testBit_and, show 255 - pg b (t / 8) = 2 ^ 8 - (pg b (t / 8) + 1) from by omega, this]
    simp [Nat.mod_lt]
  · rw [ha.out t ht]; rfl

theorem Or1_any (P Q n p : Nat) (a b : List Int) (w : World) (h : Pair w P Q n a b) (ha : ∀ z ∈ a, isByte z) (hb : ∀ z ∈ b, isByte z) (hp : p < n) :
    Calls Try.prog 49 #[.int .i64 (p : Int), .pointer (some ⟨P, 0, none⟩), .pointer (some ⟨Q, 0, none⟩)] w fun e w' => e = .returned (.int .u8 (orPg a b p)) ∧ ∃ q, w' = w.drewN q := by
  obtain ⟨A, n1, c1, A', n2, c2, hc1, hc2, hA, hB⟩ := h.box
  obtain ⟨u, o, rfl, _, h1⟩ := hA.seq.int (j := p) (by rw [h.one]; exact hp)
  obtain ⟨u', o', rfl, _, h2⟩ := hB.seq.int (j := p) (by rw [h.two]; exact hp)
  rw [pg_cast ha] at h1
  rw [pg_cast hb] at h2
  have hv := u8_or_nat _ _ (pg_lt ha p) (pg_lt hb p)
  have hn1 : n1 = n := by rw [← hA.len, h.one]
  have hn2 : n2 = n := by rw [← hB.len, h.two]
  subst hn1
  subst hn2
  have hE : orPg a b p = ((pg a p ||| pg b p : Nat) : Int) := rfl
  rw [hE]
  obtain ⟨x, hx⟩ : ∃ x, x = pg a p := ⟨_, rfl⟩
  obtain ⟨y, hy⟩ : ∃ y, y = pg b p := ⟨_, rfl⟩
  rw [← hx, ← hy] at hv ⊢
  rw [← hx] at h1
  rw [← hy] at h2
  obtain ⟨r, hr⟩ : ∃ r, r = x ||| y := ⟨_, rfl⟩
  rw [← hr] at hv ⊢
  clear hr hx hy hE h ha hb hA hB
  go_enter Try.func49, Try.ntmps49
  go_wp2
  go_quiet (fail)
  go_wp2
  go_ret
  exact ⟨rfl, _, rfl⟩

theorem Minus1_any (P Q n p : Nat) (a b : List Int) (w : World) (h : Pair w P Q n a b) (ha : ∀ z ∈ a, isByte z) (hb : ∀ z ∈ b, isByte z) (hp : p < n) :
    Calls Try.prog 35 #[.int .i64 (p : Int), .pointer (some ⟨P, 0, none⟩), .pointer (some ⟨Q, 0, none⟩)] w fun e w' => e = .returned (.int .u8 (minusPg a b p)) ∧ ∃ q, w' = w.drewN q := by
  obtain ⟨A, n1, c1, A', n2, c2, hc1, hc2, hA, hB⟩ := h.box
  obtain ⟨u, o, rfl, _, h1⟩ := hA.seq.int (j := p) (by rw [h.one]; exact hp)
  obtain ⟨u', o', rfl, _, h2⟩ := hB.seq.int (j := p) (by rw [h.two]; exact hp)
  rw [pg_cast ha] at h1
  rw [pg_cast hb] at h2
  have hv := u8_andNot_nat _ _ (pg_lt ha p) (pg_lt hb p)
  have hn1 : n1 = n := by rw [← hA.len, h.one]
  have hn2 : n2 = n := by rw [← hB.len, h.two]
  subst hn1
  subst hn2
  have hE : minusPg a b p = ((pg a p &&& (255 - pg b p) : Nat) : Int) := rfl
  rw [hE]
  obtain ⟨x, hx⟩ : ∃ x, x = pg a p := ⟨_, rfl⟩
  obtain ⟨y, hy⟩ : ∃ y, y = pg b p := ⟨_, rfl⟩
  rw [← hx, ← hy] at hv ⊢
  rw [← hx] at h1
  rw [← hy] at h2
  obtain ⟨r, hr⟩ : ∃ r, r = x &&& (255 - y) := ⟨_, rfl⟩
  rw [← hr] at hv ⊢
  clear hr hx hy hE h ha hb hA hB
  go_enter Try.func35, Try.ntmps35
  go_wp2
  go_quiet (fail)
  go_wp2
  go_ret
  exact ⟨rfl, _, rfl⟩

set_option maxHeartbeats 800000 in
theorem togetherOr_any (P Q m : Nat) (g : Nat → Int) (w : World) (h1 : 1 ≤ m) (h2 : m ≤ 16)
    (hc : ∀ p, p < pgs m → ∀ wx, Below w.heap.size w wx → Calls Try.prog 49 #[.int .i64 (p : Int), .pointer (some ⟨P, 0, none⟩), .pointer (some ⟨Q, 0, none⟩)] wx fun e w' => e = .returned (.int .u8 (g p)) ∧ ∃ q, w' = wx.drewN q) :
    Calls Try.prog 34 #[.int .i64 (m : Int), .func (.func 49) #[] #[.pointer (some ⟨P, 0, none⟩), .pointer (some ⟨Q, 0, none⟩)]] w fun e w' =>
      ∃ A c, e = .returned (.slice A (pgs m) c) ∧ w'.ownsRow w.heap.size 5 1 (.slice A (pgs m) c) (pgs m) (ints .u8 (pgTo m g (pgs m))) ∧ Below w.heap.size w w' := by
  have P1 := pages_any m w h1 h2
  have hmk := make_none m h2 w
  have hown := own_none m h2 w
  have hbel : Below w.heap.size w (w.alloc (.cells (ints .u8 (none0 m)).toArray 5)) := (Below.refl _ _).alloc (Nat.le_refl _) _
  have hp2 : pgs m ≤ 2 := by unfold pgs; omega
  obtain ⟨w1, hw1⟩ : ∃ w1, w1 = w.alloc (.cells (ints .u8 (none0 m)).toArray 5) := ⟨_, rfl⟩
  rw [← hw1] at hmk hown hbel
  obtain ⟨p, hp⟩ : ∃ p, p = pgs m := ⟨_, rfl⟩
  rw [← hp] at P1 hmk hown hc hp2 ⊢
  have P1 := Lib.hid P1
  have HC := Lib.hid hc
  have OWN := Lib.hid hown
  have BEL := Lib.hid hbel
  clear hw1 hp hc hown hbel
  go_enter Try.func34, Try.ntmps34
  go_wp2_with fail
  refine P1.out.mono ?_
  rintro e w' ⟨rfl, rfl⟩
  go_wp2_with fail
  go_loopw [12] (fun i wr => ∃ k : Nat, k ≤ p ∧ i = .int .i64 k ∧ wr.ownsRow w.heap.size 5 1 (.slice (some ⟨w.heap.size, 0, none⟩) p p) p (ints .u8 (pgTo m g k)) ∧ Below w.heap.size w wr) (fun i _ => p - (intOf i).toNat)
  case atStart => exact ⟨0, Nat.zero_le _, rfl, OWN.out, BEL.out⟩
  case round =>
    obtain ⟨k, hk, rfl, hown, hbel⟩ := hrel
    by_cases hkm : k < p
    · have K := Lib.hid (HC.out k hkm wr hbel)
      have O := Lib.hid hown
      have B := Lib.hid hbel
      clear hown hbel
      go_wp2_with fail
      refine K.out.mono ?_
      rintro e w2 ⟨rfl, q, rfl⟩
      have hown2 := owns_below O.out (below_drewN (Below.refl wr.heap.size wr) q)
      obtain ⟨g', hg', hbg, hc, hf, hset⟩ := owns_int_at hown2 hkm
      cases hg'
      have SET := Lib.hid (hset (g k))
      have B2 := Lib.hid (below_drewN B.out q)
      clear hown2 hset
      go_wp2
      go_roundw
      case rel => exact ⟨k + 1, by omega, by go_num, SET.out, B2.out.setCell (p := ⟨w.heap.size, k, none⟩) (Nat.le_refl _) _⟩
      case measure => simp [intOf]; omega
    · obtain rfl : k = p := by omega
      have O := Lib.hid hown
      have B := Lib.hid hbel
      clear hown hbel
      go_wp2
      go_ret
      exact ⟨some ⟨w.heap.size, 0, none⟩, k, rfl, O.out, B.out⟩

set_option maxHeartbeats 800000 in
theorem togetherMinus_any (P Q m : Nat) (g : Nat → Int) (w : World) (h1 : 1 ≤ m) (h2 : m ≤ 16)
    (hc : ∀ p, p < pgs m → ∀ wx, Below w.heap.size w wx → Calls Try.prog 35 #[.int .i64 (p : Int), .pointer (some ⟨P, 0, none⟩), .pointer (some ⟨Q, 0, none⟩)] wx fun e w' => e = .returned (.int .u8 (g p)) ∧ ∃ q, w' = wx.drewN q) :
    Calls Try.prog 34 #[.int .i64 (m : Int), .func (.func 35) #[] #[.pointer (some ⟨P, 0, none⟩), .pointer (some ⟨Q, 0, none⟩)]] w fun e w' =>
      ∃ A c, e = .returned (.slice A (pgs m) c) ∧ w'.ownsRow w.heap.size 5 1 (.slice A (pgs m) c) (pgs m) (ints .u8 (pgTo m g (pgs m))) ∧ Below w.heap.size w w' := by
  have P1 := pages_any m w h1 h2
  have hmk := make_none m h2 w
  have hown := own_none m h2 w
  have hbel : Below w.heap.size w (w.alloc (.cells (ints .u8 (none0 m)).toArray 5)) := (Below.refl _ _).alloc (Nat.le_refl _) _
  have hp2 : pgs m ≤ 2 := by unfold pgs; omega
  obtain ⟨w1, hw1⟩ : ∃ w1, w1 = w.alloc (.cells (ints .u8 (none0 m)).toArray 5) := ⟨_, rfl⟩
  rw [← hw1] at hmk hown hbel
  obtain ⟨p, hp⟩ : ∃ p, p = pgs m := ⟨_, rfl⟩
  rw [← hp] at P1 hmk hown hc hp2 ⊢
  have P1 := Lib.hid P1
  have HC := Lib.hid hc
  have OWN := Lib.hid hown
  have BEL := Lib.hid hbel
  clear hw1 hp hc hown hbel
  go_enter Try.func34, Try.ntmps34
  go_wp2_with fail
  refine P1.out.mono ?_
  rintro e w' ⟨rfl, rfl⟩
  go_wp2_with fail
  go_loopw [12] (fun i wr => ∃ k : Nat, k ≤ p ∧ i = .int .i64 k ∧ wr.ownsRow w.heap.size 5 1 (.slice (some ⟨w.heap.size, 0, none⟩) p p) p (ints .u8 (pgTo m g k)) ∧ Below w.heap.size w wr) (fun i _ => p - (intOf i).toNat)
  case atStart => exact ⟨0, Nat.zero_le _, rfl, OWN.out, BEL.out⟩
  case round =>
    obtain ⟨k, hk, rfl, hown, hbel⟩ := hrel
    by_cases hkm : k < p
    · have K := Lib.hid (HC.out k hkm wr hbel)
      have O := Lib.hid hown
      have B := Lib.hid hbel
      clear hown hbel
      go_wp2_with fail
      refine K.out.mono ?_
      rintro e w2 ⟨rfl, q, rfl⟩
      have hown2 := owns_below O.out (below_drewN (Below.refl wr.heap.size wr) q)
      obtain ⟨g', hg', hbg, hc, hf, hset⟩ := owns_int_at hown2 hkm
      cases hg'
      have SET := Lib.hid (hset (g k))
      have B2 := Lib.hid (below_drewN B.out q)
      clear hown2 hset
      go_wp2
      go_roundw
      case rel => exact ⟨k + 1, by omega, by go_num, SET.out, B2.out.setCell (p := ⟨w.heap.size, k, none⟩) (Nat.le_refl _) _⟩
      case measure => simp [intOf]; omega
    · obtain rfl : k = p := by omega
      have O := Lib.hid hown
      have B := Lib.hid hbel
      clear hown hbel
      go_wp2
      go_ret
      exact ⟨some ⟨w.heap.size, 0, none⟩, k, rfl, O.out, B.out⟩

set_option maxHeartbeats 800000 in
/-- Or, at all arguments. -/
theorem Or_any (n : Int) (A : Option Addr) (k c : Nat) (a : List Int) (A' : Option Addr) (k' c' : Nat) (b : List Int) (w : World) (h : Arg w .u8 A k c a) (ha : ∀ z ∈ a, isByte z) (h' : Arg w .u8 A' k' c' b) (hb : ∀ z ∈ b, isByte z) :
    Calls Try.prog 28 #[.int .i64 n, .slice A k c, .slice A' k' c'] w (RowOut .u8 5 w (orB n a b) (bothE n a b)) := by
  have hz : (w.alloc (.cells #[.slice A k c] 25)).heap.size = w.heap.size + 1 := by simp
  have hbel : Below w.heap.size w ((w.alloc (.cells #[.slice A k c] 25)).alloc (.cells #[.slice A' k' c'] 25)) := ((Below.refl _ _).alloc (Nat.le_refl _) _).alloc (by simp) _
  have C := checkBoth_any n A k c a A' k' c' b _ (h.below hbel) ha (h'.below hbel) hb
  have c1 : ((w.alloc (.cells #[.slice A k c] 25)).alloc (.cells #[.slice A' k' c'] 25)).cell? ⟨w.heap.size, 0, none⟩ = some (.slice A k c) := by
    rw [World.cell?_alloc_lt _ _ _ (by simp)]
    exact box_new w (.slice A k c) 25
  have c2 : ((w.alloc (.cells #[.slice A k c] 25)).alloc (.cells #[.slice A' k' c'] 25)).cell? ⟨w.heap.size + 1, 0, none⟩ = some (.slice A' k' c') := by
    have := box_new (w.alloc (.cells #[.slice A k c] 25)) (.slice A' k' c') 25
    rwa [hz] at this
  have hs2 : ((w.alloc (.cells #[.slice A k c] 25)).alloc (.cells #[.slice A' k' c'] 25)).heap.size = w.heap.size + 2 := by simp
  have H1 := Lib.hid (h.below hbel)
  have H2 := Lib.hid (h'.below hbel)
  have HA := Lib.hid ha
  have HB := Lib.hid hb
  clear hz h h' ha hb
  obtain ⟨w2, hw2⟩ : ∃ w2, w2 = (w.alloc (.cells #[.slice A k c] 25)).alloc (.cells #[.slice A' k' c'] 25) := ⟨_, rfl⟩
  rw [← hw2] at hbel C c1 c2 hs2 H1 H2
  have BEL := Lib.hid hbel
  clear hbel
  by_cases hc : bothE n a b = 0
  · obtain ⟨m, rfl, h1, h2, h3, h4⟩ := bothE_zero HA.out HB.out hc
    have hres : orB (m : Int) a b = pgTo m (orPg a b) (pgs m) := by
      unfold orB
      rw [if_pos hc, Int.toNat_natCast, or_all h3 h4]
    rw [hres, hc]
    rw [hc] at C
    have hlen := pgTo_length m (orPg a b) (pgs m)
    have hpair : ∀ wx, Below w2.heap.size w2 wx → Pair wx w.heap.size (w.heap.size + 1) (pgs m) a b := fun wx hx =>
      ⟨⟨A, k, c, A', k', c', (hx.cell (p := ⟨w.heap.size, 0, none⟩) (by rw [hs2]; show w.heap.size < _; omega)).trans c1, (hx.cell (p := ⟨w.heap.size + 1, 0, none⟩) (by rw [hs2]; show w.heap.size + 1 < _; omega)).trans c2, H1.out.below hx, H2.out.below hx⟩, h3.len, h4.len, by have := hx.size; omega, by have := hx.size; omega⟩
    have T := Lib.hid (togetherOr_any w.heap.size (w.heap.size + 1) m (orPg a b) w2 h1 h2 fun p hp wx hx => Or1_any _ _ _ p a b wx (hpair wx hx) HA.out HB.out hp)
    have C := Lib.hid C
    obtain ⟨p, hp⟩ : ∃ p, p = pgs m := ⟨_, rfl⟩
    rw [← hp] at hlen T ⊢
    have HL := Lib.hid hlen
    have HS := Lib.hid hs2
    clear hres hc hlen hpair hp h3 h4 hs2
    go_enter Try.func28, Try.ntmps28
    subst hw2
    go_wp2_with fail
    refine C.out.mono ?_
    rintro e w' ⟨rfl, rfl⟩
    go_wp2_with fail
    refine T.out.mono ?_
    rintro e w3 ⟨A3, c3, rfl, hown, hbel⟩
    have O := Lib.hid hown
    have B := Lib.hid (BEL.out.trans (hbel.mono BEL.out.size))
    clear hown hbel
    go_wp2
    go_ret2
    refine ⟨A3, c3, by rw [HL.out]; rfl, ?_, B.out⟩
    rw [HL.out]
    exact owns_base O.out (by rw [HS.out]; omega)
  · have hne : (bothE n a b != 0) = true := by rw [bne_iff_ne]; exact hc
    have hres : orB n a b = [] := by unfold orB; rw [if_neg hc]
    rw [hres]
    obtain ⟨E, hE⟩ : ∃ E, E = bothE n a b := ⟨_, rfl⟩
    rw [← hE] at C hne ⊢
    have C := Lib.hid C
    clear hc hE hres hs2
    go_enter Try.func28, Try.ntmps28
    subst hw2
    go_wp2_with fail
    refine C.out.mono ?_
    rintro e w' ⟨rfl, rfl⟩
    go_wp2
    go_ret2
    exact ⟨none, 0, rfl, World.ownsRow_nil _ _ _ _, BEL.out⟩

set_option maxHeartbeats 800000 in
/-- Minus, at all arguments. -/
theorem Minus_any (n : Int) (A : Option Addr) (k c : Nat) (a : List Int) (A' : Option Addr) (k' c' : Nat) (b : List Int) (w : World) (h : Arg w .u8 A k c a) (ha : ∀ z ∈ a, isByte z) (h' : Arg w .u8 A' k' c' b) (hb : ∀ z ∈ b, isByte z) :
    Calls Try.prog 10 #[.int .i64 n, .slice A k c, .slice A' k' c'] w (RowOut .u8 5 w (minusB n a b) (bothE n a b)) := by
  have hz : (w.alloc (.cells #[.slice A k c] 25)).heap.size = w.heap.size + 1 := by simp
  have hbel : Below w.heap.size w ((w.alloc (.cells #[.slice A k c] 25)).alloc (.cells #[.slice A' k' c'] 25)) := ((Below.refl _ _).alloc (Nat.le_refl _) _).alloc (by simp) _
  have C := checkBoth_any n A k c a A' k' c' b _ (h.below hbel) ha (h'.below hbel) hb
  have c1 : ((w.alloc (.cells #[.slice A k c] 25)).alloc (.cells #[.slice A' k' c'] 25)).cell? ⟨w.heap.size, 0, none⟩ = some (.slice A k c) := by
    rw [World.cell?_alloc_lt _ _ _ (by simp)]
    exact box_new w (.slice A k c) 25
  have c2 : ((w.alloc (.cells #[.slice A k c] 25)).alloc (.cells #[.slice A' k' c'] 25)).cell? ⟨w.heap.size + 1, 0, none⟩ = some (.slice A' k' c') := by
    have := box_new (w.alloc (.cells #[.slice A k c] 25)) (.slice A' k' c') 25
    rwa [hz] at this
  have hs2 : ((w.alloc (.cells #[.slice A k c] 25)).alloc (.cells #[.slice A' k' c'] 25)).heap.size = w.heap.size + 2 := by simp
  have H1 := Lib.hid (h.below hbel)
  have H2 := Lib.hid (h'.below hbel)
  have HA := Lib.hid ha
  have HB := Lib.hid hb
  clear hz h h' ha hb
  obtain ⟨w2, hw2⟩ : ∃ w2, w2 = (w.alloc (.cells #[.slice A k c] 25)).alloc (.cells #[.slice A' k' c'] 25) := ⟨_, rfl⟩
  rw [← hw2] at hbel C c1 c2 hs2 H1 H2
  have BEL := Lib.hid hbel
  clear hbel
  by_cases hc : bothE n a b = 0
  · obtain ⟨m, rfl, h1, h2, h3, h4⟩ := bothE_zero HA.out HB.out hc
    have hres : minusB (m : Int) a b = pgTo m (minusPg a b) (pgs m) := by
      unfold minusB
      rw [if_pos hc, Int.toNat_natCast, minus_all h3 h4]
    rw [hres, hc]
    rw [hc] at C
    have hlen := pgTo_length m (minusPg a b) (pgs m)
    have hpair : ∀ wx, Below w2.heap.size w2 wx → Pair wx w.heap.size (w.heap.size + 1) (pgs m) a b := fun wx hx =>
      ⟨⟨A, k, c, A', k', c', (hx.cell (p := ⟨w.heap.size, 0, none⟩) (by rw [hs2]; show w.heap.size < _; omega)).trans c1, (hx.cell (p := ⟨w.heap.size + 1, 0, none⟩) (by rw [hs2]; show w.heap.size + 1 < _; omega)).trans c2, H1.out.below hx, H2.out.below hx⟩, h3.len, h4.len, by have := hx.size; omega, by have := hx.size; omega⟩
    have T := Lib.hid (togetherMinus_any w.heap.size (w.heap.size + 1) m (minusPg a b) w2 h1 h2 fun p hp wx hx => Minus1_any _ _ _ p a b wx (hpair wx hx) HA.out HB.out hp)
    have C := Lib.hid C
    obtain ⟨p, hp⟩ : ∃ p, p = pgs m := ⟨_, rfl⟩
    rw [← hp] at hlen T ⊢
    have HL := Lib.hid hlen
    have HS := Lib.hid hs2
    clear hres hc hlen hpair hp h3 h4 hs2
    go_enter Try.func10, Try.ntmps10
    subst hw2
    go_wp2_with fail
    refine C.out.mono ?_
    rintro e w' ⟨rfl, rfl⟩
    go_wp2_with fail
    refine T.out.mono ?_
    rintro e w3 ⟨A3, c3, rfl, hown, hbel⟩
    have O := Lib.hid hown
    have B := Lib.hid (BEL.out.trans (hbel.mono BEL.out.size))
    clear hown hbel
    go_wp2
    go_ret2
    refine ⟨A3, c3, by rw [HL.out]; rfl, ?_, B.out⟩
    rw [HL.out]
    exact owns_base O.out (by rw [HS.out]; omega)
  · have hne : (bothE n a b != 0) = true := by rw [bne_iff_ne]; exact hc
    have hres : minusB n a b = [] := by unfold minusB; rw [if_neg hc]
    rw [hres]
    obtain ⟨E, hE⟩ : ∃ E, E = bothE n a b := ⟨_, rfl⟩
    rw [← hE] at C hne ⊢
    have C := Lib.hid C
    clear hc hE hres hs2
    go_enter Try.func10, Try.ntmps10
    subst hw2
    go_wp2_with fail
    refine C.out.mono ?_
    rintro e w' ⟨rfl, rfl⟩
    go_wp2
    go_ret2
    exact ⟨none, 0, rfl, World.ownsRow_nil _ _ _ _, BEL.out⟩

end Go.Proofs.Ytpkecbejnpkieaa
