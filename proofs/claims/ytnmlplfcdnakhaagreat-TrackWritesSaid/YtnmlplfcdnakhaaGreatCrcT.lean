/- Layer 2: what the document's own Seal and Open return, in the words of CrcMath. -/
import Derived.Test.YtnmlplfcdnakhaaGreatCrcS
import Derived.Test.YtnmlplfcdnakhaaGreatCopy
import Derived.Test.YtnmlplfcdnakhaaGreatBase3
import Derived.Deep.RegionWith
import Derived.Lib.Bytes
namespace Go.Proofs.YtnmlplfcdnakhaaGreat
open Go.RowKit
set_option linter.unusedVariables false

/-- What a call hands back: a row of its own, and nothing that was there has turned. -/
def OneOut (k : IntKind) (t : TypeId) (w : World) (zs : List Int) (n : Nat) (e : Ending) (w' : World) : Prop :=
  ∃ A c, e = .returned (.slice A n c) ∧ w'.ownsRow w.heap.size t 1 (.slice A n c) n (ints k zs) ∧ Below w.heap.size w w'

set_option maxRecDepth 100000 in
set_option maxHeartbeats 800000 in
theorem rsealed_any (A : Option Addr) (n c : Nat) (b : List Int) (w : World) (h : Arg w .u8 A n c b) (hn : n ≤ 5000) (hb : ∀ z ∈ b, isByte z) :
    Calls Tryz.prog 17 #[.slice A n c] w (OneOut .u8 5 w (sealed b) (n + 4)) := by
  obtain ⟨i0, hi0, hz0, hz1, hz2⟩ := info_parts byte_info
  have hml : (5004 : Nat) ≤ maxLen := by decide
  have hs := rsum_any A n c b w _ h.seq h.len (by omega) hb
  have hsw := sum_w hb
  have hse : sealed b = b ++ le4 (sum b) := rfl
  rw [hse]
  obtain ⟨s, hsn⟩ : ∃ s, s = sum b := ⟨_, rfl⟩
  rw [← hsn] at hs hsw ⊢
  have hs4 : s < 4294967296 := hsw
  have hlit : #[Value.int .u8 ((s : Int) % 256), .int .u8 ((s : Int) / 256 % 256), .int .u8 ((s : Int) / 65536 % 256), .int .u8 ((s : Int) / 16777216)] = (ints .u8 (le4 s)).toArray := by
    simp [ints, le4]
    omega
  have HS := Lib.hid hs
  have LIT := Lib.hid hlit
  have H := Lib.hid h
  obtain ⟨L, hL⟩ : ∃ L, L = le4 s := ⟨_, rfl⟩
  have hLl : L.length = 4 := by rw [hL]; rfl
  rw [← hL] at LIT ⊢
  have HLL := Lib.hid hLl
  clear hs hsw hse hsn hlit h hb hL hLl
  go_enter Tryz.func17, Tryz.ntmps17
  go_wp2_with fail
  refine HS.out.mono ?_
  rintro e w' ⟨rfl, rfl⟩
  go_wp2_with (first
    | (at_builtin; refine wpList_dup_g w rfl (.tmp 6) (.tmp 7) _ rfl 5 i0 _ 1 Tryz.underlying28 hi0 hz0 hz1 hz2 rfl rfl A n c (ints .u8 b) rfl (by rw [ints_length, H.out.len]) H.out.seq (ints_one _ _) (by omega) (by omega) ?_; intro A1 c1 w1 hown1 hbel1; have O1 := Lib.hid hown1; have B1 := Lib.hid hbel1; clear hown1 hbel1)
    | (at_builtin; go_must (refine wpList_behind_g w _ rfl (.tmp 8) (.tmp 20) _ rfl w.heap.size 5 i0 _ 1 Tryz.underlying28 hi0 hz0 hz1 hz2 rfl A1 n c1 (ints .u8 b) rfl (O1.out.allocated _) (w1.heap.size + 1) (some ⟨w1.heap.size, 0, none⟩) 4 4 (ints .u8 L) rfl (by rw [ints_length, HLL.out]) (lit_row _ _ .u8 L _ _ _ LIT.out rfl (Nat.lt_succ_self _)) (ints_one _ _) (by omega) (by omega) (B1.out.alloc B1.out.size _) (Nat.le_refl _) ?_; intro A2 c2 w2 hown2 hbel2; have O2 := Lib.hid hown2; have B2 := Lib.hid hbel2; clear hown2 hbel2)))
  go_ret
  have ho := O2.out
  rw [← ints_app] at ho
  exact ⟨A2, c2, rfl, ho, B2.out⟩

theorem map_byte_inj : ∀ (x y : List Int), (∀ z ∈ x, isByte z) → (∀ z ∈ y, isByte z) → (x.map fun n => UInt8.ofNat n.toNat) = (y.map fun n => UInt8.ofNat n.toNat) → x = y := by
  intro x
  induction x with
  | nil => intro y _ _ h; cases y with
    | nil => rfl
    | cons b y => cases h
  | cons a x ih =>
    intro y hx hy h
    cases y with
    | nil => cases h
    | cons b y =>
      simp only [List.map_cons, List.cons.injEq] at h
      have ha := hx a (by simp)
      have hb := hy b (by simp)
      unfold isByte at ha hb
      have e : (UInt8.ofNat a.toNat).toNat = (UInt8.ofNat b.toNat).toNat := by rw [h.1]
      rw [UInt8.toNat_ofNat', UInt8.toNat_ofNat'] at e
      have e2 : a = b := by omega
      rw [e2, ih y (fun z hz => hx z (by simp [hz])) (fun z hz => hy z (by simp [hz])) h.2]
/-- Two texts that are read the same are the same bytes. -/
theorem str_ne {x y : List Int} (hx : ∀ z ∈ x, isByte z) (hy : ∀ z ∈ y, isByte z) (h : x ≠ y) : ((strOfNums x).toList == (strOfNums y).toList) = false := by
  rw [beq_eq_false_iff_ne]
  intro e
  rw [Lib.toList_data, Lib.toList_data, strOfNums_data, strOfNums_data] at e
  exact h (map_byte_inj x y hx hy e)

end Go.Proofs.YtnmlplfcdnakhaaGreat
