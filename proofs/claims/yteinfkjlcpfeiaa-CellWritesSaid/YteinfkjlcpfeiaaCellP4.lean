/- Layer 6, the program: a part's row and text. No statement is proved here. -/
/- Layer 6, the program: a row read, a part's text. No statement is proved here. -/
/- Layer 6, the program: a part's text. No statement is proved here. -/
/- Layer 6, the program: is a sector's text a part's. No statement is proved here. -/
import Derived.Test.YteinfkjlcpfeiaaCellMath
import Derived.Test.YteinfkjlcpfeiaaNumW
import Derived.Test.YteinfkjlcpfeiaaCopy
import Derived.Test.YteinfkjlcpfeiaaDiskW
import Derived.Deep.RegionHeld3
import Derived.StillTailTactics
import Derived.Lib.EndianBits
import Derived.Test.YteinfkjlcpfeiaaDiskR9
import Derived.Deep.RegionWith
import Derived.Test.YteinfkjlcpfeiaaDskP4
import Derived.WalkLawsBesides
namespace Go.Proofs.Yteinfkjlcpfeiaa
open Go.RowKit
set_option linter.unusedVariables false

theorem sizes_any (w : World) : Calls Try.prog 108 #[] w fun e w' => ∃ g, e = .returned (.slice (some ⟨g, 0, none⟩) 4 4) ∧ Arg w' .i64 (some ⟨g, 0, none⟩) 4 4 sz4 ∧ Below w.heap.size w w' := by
  have hml : 4 ≤ maxLen := by decide
  have HA := Lib.hid (show Arg (w.alloc (.cells #[.int .i64 4, .int .i64 1, .int .i64 1, .int .i64 2] 3)) .i64 (some ⟨w.heap.size, 0, none⟩) 4 4 sz4 from ⟨lit_row w 3 .i64 sz4 _ _ _ rfl rfl (by simp), rfl, Nat.le_refl _, hml⟩)
  go_enter Try.func108, Try.ntmps108
  go_wp2
  go_ret
  exact ⟨_, rfl, HA.out, (Below.refl _ _).alloc (Nat.le_refl _) _⟩

abbrev rowV (v n m : Int) : Value := .agg #[.int .u32 v, .int .i64 n, .int .i64 m]

theorem nums_row (w : World) (v n m : Int) (b B : Nat) (hb : b = w.heap.size) (hB : w.heap.size < B) : Seq (w.alloc (.cells #[.int .u64 v, .int .u64 n, .int .u64 m, .int .u64 0] 116)) B (some ⟨b, 0, none⟩) (ints .u64 [v, n, m, 0]) := lit_row w 116 .u64 [v, n, m, 0] _ _ _ rfl hb hB

set_option maxRecDepth 100000 in
set_option maxHeartbeats 3200000 in
theorem bytes_any (v n m : Int) (hv : 0 ≤ v ∧ v < 4294967296) (hn : 0 ≤ n ∧ n < 256) (hm : 0 ≤ m ∧ m < 256) (w : World) :
    Calls Try.prog 109 #[rowV v n m] w fun e w' => ∃ A c, e = .returned (.slice A 8 c) ∧ w'.ownsRow w.heap.size 5 1 (.slice A 8 c) 8 (ints .u8 (rowT v n m)) ∧ Below w.heap.size w w' := by
  have x := Blk.new w 135 [.int .u32 v, .int .i64 n, .int .i64 m]
  have hbel : Below w.heap.size w (w.alloc (.cells #[.int .u32 v, .int .i64 n, .int .i64 m] 135)) := (Below.refl _ _).alloc (Nat.le_refl _) _
  have FT := Lib.hid (show fitsTo [v, n, m, 0] sz4 sz4.length = true from fits4 hv hn hm)
  have W1 := Lib.hid (show ∀ z ∈ [v, n, m, (0 : Int)], isWord z by
    intro z hz
    simp only [List.mem_cons, List.not_mem_nil, or_false] at hz
    unfold isWord
    rcases hz with rfl | rfl | rfl | rfl <;> omega)
  have X := Lib.hid x
  have BL := Lib.hid hbel
  have hv0 := hv.1
  have hv1 := hv.2
  have hn0 := hn.1
  have hn1 := hn.2
  have hm0 := hm.1
  have hm1 := hm.2
  have e1 : IntKind.u64.wrap v = v := wraps_u64 v hv0 (by omega)
  have e2 : IntKind.u64.wrap n = n := wraps_u64 n hn0 (by omega)
  have e3 : IntKind.u64.wrap m = m := wraps_u64 m hm0 (by omega)
  clear x hbel hv hn hm
  go_enter Try.func109, Try.ntmps109
  go_upto_region 1 with fail
  obtain ⟨v1, hW⟩ : ∃ x : World, x = w.alloc (.cells #[.int .u32 v, .int .i64 n, .int .i64 m] 135) := ⟨_, rfl⟩
  rw [← hW] at X BL ⊢
  have hlt : w.heap.size < v1.heap.size := X.out.lt
  clear hW
  have hcur : Below v1.heap.size v1 v1.drew := below_drewN (Below.refl _ _) 1
  have keepX : ∀ wx, Below v1.heap.size v1 wx → wx.cell? ⟨w.heap.size, 0, none⟩ = some (.int .u32 v) ∧ wx.cell? ⟨w.heap.size, 1, none⟩ = some (.int .i64 n) ∧ wx.cell? ⟨w.heap.size, 2, none⟩ = some (.int .i64 m) := fun wx hx => (fun (b : Blk wx w.heap.size 135 [.int .u32 v, .int .i64 n, .int .i64 m]) => ⟨b.cell 0, b.cell 1, b.cell 2⟩) (X.out.below hx hlt)
  have hkX := keepX _ hcur
  go_region_held3 (fun w' => w'.cell? ⟨w.heap.size, 0, none⟩ = some (.int .u32 v) ∧ w'.cell? ⟨w.heap.size, 1, none⟩ = some (.int .i64 n) ∧ w'.cell? ⟨w.heap.size, 2, none⟩ = some (.int .i64 m))
    (first | exact hkX | exact keepX _ (hcur.alloc hcur.size _) | exact keepX _ (below_drewN ((Below.refl _ _).alloc (Nat.le_refl _) _) 1) | go_keep)
    (first
      | (go_at_call 108; with_reducible refine (sizes_any v1.drew).mono ?_; rintro e wS ⟨gS, rfl, hAS, hbS⟩; have hcur := hcur.trans (hbS.mono hcur.size); have hkX := keepX _ hcur)
      | (go_at_call 108; have hL := nums_row v1 v n m v1.heap.size (v1.heap.size + 1) rfl (Nat.lt_succ_self _); have hcur : Below v1.heap.size v1 (v1.alloc (.cells #[.int .u64 v, .int .u64 n, .int .u64 m, .int .u64 0] 116)).drew := below_drewN ((Below.refl _ _).alloc (Nat.le_refl _) _) 1; have hL : Seq (v1.alloc (.cells #[.int .u64 v, .int .u64 n, .int .u64 m, .int .u64 0] 116)).drew (v1.heap.size + 1) (some ⟨v1.heap.size, 0, none⟩) (ints .u64 [v, n, m, 0]) := hL.keep fun _ _ => rfl; with_reducible refine (sizes_any _).mono ?_; rintro e wS ⟨gS, rfl, hAS, hbS⟩; have hL := (hL.below (hbS.mono (by simp))).more (B' := wS.heap.size) (Nat.le_trans (by simp) hbS.size); have hcur := hcur.trans (hbS.mono hcur.size); have hkX := keepX _ hcur)
      | (go_at_call 114; with_reducible refine (write_ok (some ⟨v1.heap.size, 0, none⟩) (some ⟨gS, 0, none⟩) 4 4 4 4 [v, n, m, 0] sz4 _ hAS.seq rfl okB_sz4 hL rfl rfl W1.out).mono ?_; intro e w2 hout; have hM := hcur.size; obtain ⟨A2, c2, rfl, hown, hb⟩ := (WroteOut.yes hout FT.out).len (zs' := rowT v n m) (n := 8) rfl (rowT_length _ _ _); have hcur := hcur.trans (hb.mono hcur.size); have hkX := keepX _ hcur)
      | (go_at_call 114; have hL := nums_row wS v n m wS.heap.size (wS.heap.size + 1) rfl (Nat.lt_succ_self _); have hL := hL.more (B' := (wS.alloc (.cells #[.int .u64 v, .int .u64 n, .int .u64 m, .int .u64 0] 116)).heap.size) (by simp); have hAS := hAS.below ((Below.refl wS.heap.size wS).alloc (Nat.le_refl _) (.cells #[.int .u64 v, .int .u64 n, .int .u64 m, .int .u64 0] 116)); have hcur := hcur.alloc hcur.size (.cells #[.int .u64 v, .int .u64 n, .int .u64 m, .int .u64 0] 116); with_reducible refine (write_ok (some ⟨wS.heap.size, 0, none⟩) (some ⟨gS, 0, none⟩) 4 4 4 4 [v, n, m, 0] sz4 _ hAS.seq rfl okB_sz4 hL rfl rfl W1.out).mono ?_; intro e w2 hout; have hM := hcur.size; obtain ⟨A2, c2, rfl, hown, hb⟩ := (WroteOut.yes hout FT.out).len (zs' := rowT v n m) (n := 8) rfl (rowT_length _ _ _); have hcur := hcur.trans (hb.mono hcur.size); have hkX := keepX _ hcur))
  all_goals (
    have hfin := BL.out.trans (hcur.mono BL.out.size)
    have hown := hown
    go_wp2
    go_ret
    exact ⟨A2, c2, rfl, owns_base hown (Nat.le_trans BL.out.size hM), hfin⟩)

end Go.Proofs.Yteinfkjlcpfeiaa

namespace Go.Proofs.Yteinfkjlcpfeiaa
open Go.RowKit
set_option linter.unusedVariables false

theorem Arg.first {w : World} {k : IntKind} {A : Option Addr} {n c m : Nat} {zs : List Int} (h : Arg w k A n c zs) (hm : m ≤ n) : Arg w k A m c (zs.take m) := by
  refine ⟨?_, by rw [List.length_take, h.len]; omega, Nat.le_trans hm h.cap, h.max⟩
  have := h.seq.take m
  unfold ints at this ⊢
  rwa [← List.map_take] at this
theorem wrap_i64_byte {z : Int} (h : isByte z) : IntKind.i64.wrap z = z := by
  obtain ⟨k, rfl⟩ := Int.eq_ofNat_of_zero_le h.1
  have := h.2
  exact Lib.wrap_i64_small k (by omega)
theorem Blk.three {w : World} {g : Nat} {t : TypeId} {a b c : Value} (h : Blk w g t [a, b, c]) (x y z : Value) : Blk (((w.setCell ⟨g, 0, none⟩ x).setCell ⟨g, 1, none⟩ y).setCell ⟨g, 2, none⟩ z) g t [x, y, z] := ((h.set 0 x).set 1 y).set 2 z

set_option maxRecDepth 100000 in
set_option maxHeartbeats 3200000 in
theorem rowOf_any (b o c : Nat) (T : Txt) (w : World) (hT : Arg w .u8 (some ⟨b, o, none⟩) 32 c T) (hby : ∀ z ∈ T, isByte z) :
    Calls Try.prog 93 #[.slice (some ⟨b, o, none⟩) 32 c] w fun e w' => ∃ n : Int, e = .returned (rowV (verOf T) n (manyOf T)) ∧ Below w.heap.size w w' := by
  have x := Blk.new w 135 [.int .u32 0, .int .i64 0, .int .i64 0]
  have hbel : Below w.heap.size w (w.alloc (.cells #[.int .u32 0, .int .i64 0, .int .i64 0] 135)) := (Below.refl _ _).alloc (Nat.le_refl _) _
  have h32 : T.length = 32 := hT.len
  have hvb := ver_bounds (t := T) (by omega) hby
  have hmb := byte_getD hby 5
  have hnm := nums4_eq T (by omega)
  rw [val_one (by omega), val_one (by omega)] at hnm
  have hnb := byte_getD hby 4
  obtain ⟨nn, hnn⟩ : ∃ x, x = T.getD 4 0 := ⟨_, rfl⟩
  obtain ⟨zz, hzz⟩ : ∃ x, x = val ((T.drop 6).take 2) := ⟨_, rfl⟩
  have hmm : manyOf T = T.getD 5 0 := rfl
  rw [← hnn, ← hzz, ← hmm] at hnm
  rw [← hnn] at hnb
  rw [← hmm] at hmb
  obtain ⟨vv, hvv⟩ : ∃ x, x = verOf T := ⟨_, rfl⟩
  obtain ⟨mm, hmm2⟩ : ∃ x, x = manyOf T := ⟨_, rfl⟩
  rw [← hvv, ← hmm2] at hnm
  rw [← hvv] at hvb
  rw [← hmm2] at hmb
  rw [← hvv, ← hmm2]
  have hcc := hT.cap
  have hmax := hT.max
  unfold maxLen at hmax
  have HT := Lib.hid ((hT.first (m := 8) (by omega)).below hbel)
  have HNM := Lib.hid (show numsTo (T.take 8) sz4 4 = [vv, nn, mm, zz] from hnm)
  have HBY := Lib.hid (show ∀ z ∈ T.take 8, isByte z from fun z hz => hby z (List.mem_of_mem_take hz))
  have H8 := Lib.hid (show (T.take 8).length = 8 by rw [List.length_take]; omega)
  have X := Lib.hid x
  have BL := Lib.hid hbel
  have hc8 : (8 : Int) ≤ (c : Int) := by omega
  obtain ⟨hv0, hv1⟩ := hvb
  obtain ⟨hn0, hn1⟩ := hnb
  obtain ⟨hm0, hm1⟩ := hmb
  have e1 : IntKind.u32.wrap vv = vv := wraps_u32 vv hv0 (by omega)
  have e2 : IntKind.i64.wrap nn = nn := wrap_i64_byte ⟨hn0, hn1⟩
  have e3 : IntKind.i64.wrap mm = mm := wrap_i64_byte ⟨hm0, hm1⟩
  clear x hbel hT hby hnm hmm hnn hzz hvv hmm2 h32
  go_enter Try.func93, Try.ntmps93
  go_upto_region 1 with fail
  obtain ⟨v1, hW⟩ : ∃ x : World, x = w.alloc (.cells #[.int .u32 0, .int .i64 0, .int .i64 0] 135) := ⟨_, rfl⟩
  rw [← hW] at X BL HT ⊢
  have hlt : w.heap.size < v1.heap.size := X.out.lt
  clear hW
  have hcur : Below v1.heap.size v1 v1.drew := below_drewN (Below.refl _ _) 1
  go_region_with ((first
    | (go_at_call 108; with_reducible refine (sizes_any _).mono ?_; rintro e wS ⟨gS, rfl, hAS, hbS⟩; have hcur := hcur.trans (hbS.mono hcur.size))
    | (go_at_call 107; with_reducible refine (read_ok (some ⟨b, o, none⟩) (some ⟨gS, 0, none⟩) 8 c 4 4 (T.take 8) sz4 _ hAS.seq rfl okB_sz4 ((HT.out.below hcur).seq) H8.out at_sz4.symm (by omega) HT.out.max HBY.out).mono ?_; intro e w2 hout; have hM := hcur.size; obtain ⟨A2, c2, rfl, hown, hb⟩ := hout.len (zs' := [vv, nn, mm, zz]) (n := 4) HNM.out rfl; have hcur := hcur.trans (hb.mono hcur.size))))
  all_goals (
    have X2 := Lib.hid (X.out.below hcur hlt)
    have B2 := Lib.hid (BL.out.trans (hcur.mono BL.out.size))
    obtain ⟨g, rfl, hg, q0, _, _⟩ := owns_int_at (j := 0) hown (by decide)
    obtain ⟨_, eg, _, q1, _, _⟩ := owns_int_at (j := 1) hown (by decide)
    injection eg with eg; injection eg with eg; subst eg
    obtain ⟨_, eg, _, q2, _, _⟩ := owns_int_at (j := 2) hown (by decide)
    injection eg with eg; injection eg with eg; subst eg
    simp only [List.getD_cons_zero, List.getD_cons_succ] at q0 q1 q2
    clear hown hb hcur hout BL X HT HNM HBY H8
    go_upto_region 2 with fail
    have p0 := X2.out.cell 0
    have p1 := X2.out.cell 1
    have p2 := X2.out.cell 2
    have f0 := X2.out.free 0
    have f1 := X2.out.free 1
    have f2 := X2.out.free 2
    simp only [List.getElem?_cons_zero, List.getElem?_cons_succ] at p0 p1 p2
    go_still_tail 13, (by kernel_rfl)
    change wpList _ _ _ _ _ w2.drew
    go_wp2
    have z := X2.out.three (.int .u32 vv) (.int .i64 nn) (.int .i64 mm)
    have z0 := z.cell 0
    have z1 := z.cell 1
    have z2 := z.cell 2
    simp only [List.getElem?_cons_zero, List.getElem?_cons_succ] at z0 z1 z2
    refine bodyPost_ret (v := rowV vv nn mm) ?_ rfl ⟨⟨nn, rfl⟩, below_drewN (((B2.out.setCell (p := ⟨w.heap.size, 0, none⟩) (Nat.le_refl _) _).setCell (p := ⟨w.heap.size, 1, none⟩) (Nat.le_refl _) _).setCell (p := ⟨w.heap.size, 2, none⟩) (Nat.le_refl _) _) 1⟩
    clear p0 p1 p2 f0 f1 f2 q0 q1 q2
    simp [results, Try.f93, go_sem, z0, z1, z2])

end Go.Proofs.Yteinfkjlcpfeiaa

namespace Go.Proofs.Yteinfkjlcpfeiaa
open Go.RowKit
set_option linter.unusedVariables false

theorem splice_row (v n m : Int) : splice (ints .u8 noughts) 0 (ints .u8 (rowT v n m)) = ints .u8 (rowT v n m ++ List.replicate 24 0) := by
  have hl : (rowT v n m).length = 8 := rowT_length v n m
  simp [splice, ints, noughts, hl]
theorem splice_part (r b : Txt) (hr : r.length = 8) (hb : b.length ≤ 24) : splice (ints .u8 (r ++ List.replicate 24 0)) 8 (ints .u8 b) = ints .u8 (r ++ b ++ List.replicate (24 - b.length) 0) := by
  have e : 24 - b.length = 32 - (8 + b.length) := by omega
  have h1 : (ints .u8 (r ++ List.replicate 24 0)).take 8 = ints .u8 r := by
    unfold ints
    rw [← List.map_take, List.take_append_of_le_length (by omega), List.take_of_length_le (by omega)]
  have h2 : (ints .u8 (r ++ List.replicate 24 0)).drop (8 + (ints .u8 b).length) = ints .u8 (List.replicate (24 - b.length) 0) := by
    rw [ints_length]
    unfold ints
    rw [← List.map_drop, List.drop_append, List.drop_of_length_le (by omega), List.nil_append, List.drop_replicate, show 24 - (8 + b.length - r.length) = 24 - b.length from by omega]
  unfold splice
  rw [h1, h2]
  simp [ints]

set_option maxRecDepth 100000 in
set_option maxHeartbeats 3200000 in
theorem text_any (v n m : Int) (hv : 0 ≤ v ∧ v < 4294967296) (hn : 0 ≤ n ∧ n < 256) (hm : 0 ≤ m ∧ m < 256) (A : Option Addr) (k c : Nat) (b : Txt) (w : World) (hb : Arg w .u8 A k c b) (hk : k ≤ 24) :
    Calls Try.prog 94 #[rowV v n m, .slice A k c] w fun e w' => ∃ g, e = .returned (.slice (some ⟨g, 0, none⟩) 32 32) ∧ w'.ownsRow w.heap.size 5 1 (.slice (some ⟨g, 0, none⟩) 32 32) 32 (ints .u8 (rowT v n m ++ b ++ List.replicate (24 - b.length) 0)) ∧ Below w.heap.size w w' := by
  have x := Blk.new w 135 [.int .u32 v, .int .i64 n, .int .i64 m]
  have hbel : Below w.heap.size w (w.alloc (.cells #[.int .u32 v, .int .i64 n, .int .i64 m] 135)) := (Below.refl _ _).alloc (Nat.le_refl _) _
  obtain ⟨v1, hW⟩ : ∃ x : World, x = w.alloc (.cells #[.int .u32 v, .int .i64 n, .int .i64 m] 135) := ⟨_, rfl⟩
  rw [← hW] at x hbel
  have hmk := make_bytes 32 (by decide) v1
  rw [show ((32 : Nat) : Int) = 32 from rfl] at hmk
  have y := Blk.new v1 5 (List.replicate 32 (.int .u8 0))
  rw [noughts_ints] at y
  have hbl1 : Below v1.heap.size v1 (v1.alloc (.cells (List.replicate 32 (.int .u8 0)).toArray 5)) := (Below.refl _ _).alloc (Nat.le_refl _) _
  rw [noughts_ints] at hmk hbl1
  have hxl := x.lt
  obtain ⟨v2, hV⟩ : ∃ x : World, x = v1.alloc (.cells (ints .u8 noughts).toArray 5) := ⟨_, rfl⟩
  rw [← hV] at hmk y hbl1
  have x2 := x.below hbl1 hxl
  have c0 := x2.cell 0
  have c1 := x2.cell 1
  have c2 := x2.cell 2
  simp only [List.getElem?_cons_zero, List.getElem?_cons_succ] at c0 c1 c2
  have HB := Lib.hid hb
  have BL := Lib.hid (hbel.trans (hbl1.mono hbel.size))
  have Y := Lib.hid y
  have RB := Lib.hid (bytes_any v n m hv hn hm v2)
  have HG := Lib.hid hbel.size
  obtain ⟨G, hG⟩ : ∃ G, G = v1.heap.size := ⟨_, rfl⟩
  rw [← hG] at Y hmk HG
  have HWG := Lib.hid Y.out.lt
  clear x hbel hbl1 hb y x2 hxl hV hv hn hm hG
  go_enter Try.func94, Try.ntmps94
  go_upto_region 1 with fail
  rw [← hW]
  clear hW
  go_wp2_with fail
  refine RB.out.mono ?_
  rintro e w3 ⟨A2, c2', rfl, hown, hb3⟩
  have Y3 := Lib.hid (Y.out.below hb3 HWG.out)
  have B3 := Lib.hid (BL.out.trans (hb3.mono BL.out.size))
  have R2 := Lib.hid (Arg.own hown)
  have HLEN := Lib.hid (show (ints .u8 (rowT v n m)).length = Nat.min 8 32 by rw [ints_length, rowT_length]; decide)
  have HFIT := Lib.hid (show 0 + (ints .u8 (rowT v n m)).length ≤ (ints .u8 noughts).length by rw [ints_length, ints_length, rowT_length]; decide)
  clear hown hb3 RB Y BL c0 c1 c2 hmk
  have HLE2 := Lib.hid (show (ints .u8 b).length = Nat.min k 24 by rw [ints_length, HB.out.len]; exact (Nat.min_eq_left hk).symm)
  have HFI2 := Lib.hid (show 8 + (ints .u8 b).length ≤ (ints .u8 (rowT v n m ++ List.replicate 24 0)).length by rw [ints_length, ints_length, HB.out.len, List.length_append, rowT_length, List.length_replicate]; omega)
  go_wp2_with (first | (with_reducible refine wpList_copy_seq (o := ⟨some 10, _, _, _, _, _⟩) rfl (.tmp 7) (.tmp 9) _ _ rfl 5 Try.underlying31 byte_size A2 G 0 32 32 8 c2' rfl rfl (ints .u8 noughts) 5 Y3.out (ints .u8 (rowT v n m)) HLEN.out _ R2.out.seq HFIT.out (ints_one _ _) w.heap.size w B3.out HG.out ?_; intro w4 HG4 hB4; have Y4 := HG4.out; rw [splice_row] at Y4; have R4 := Lib.hid (HB.out.below hB4); have HB4 := Lib.hid hB4; clear hB4 HG4; have Y4 := Lib.hid Y4) | (with_reducible refine wpList_copy_seq (o := ⟨some 14, _, _, _, _, _⟩) rfl (.tmp 12) (.tmp 13) _ _ rfl 5 Try.underlying31 byte_size A G 8 24 24 k c rfl rfl (ints .u8 (rowT v n m ++ List.replicate 24 0)) 5 Y4.out (ints .u8 b) HLE2.out _ R4.out.seq HFI2.out (ints_one _ _) w.heap.size w HB4.out HG.out ?_; intro w5 HG5 hB5))
  go_ret
  have hb5 := HG5.out
  rw [splice_part _ _ (rowT_length v n m) (by rw [HB.out.len]; exact hk)] at hb5
  exact ⟨G, rfl, hb5.owns HG.out (by rw [ints_length]; simp only [List.length_append, rowT_length, List.length_replicate, HB.out.len]; omega) (by decide), hB5⟩

end Go.Proofs.Yteinfkjlcpfeiaa

namespace Go.Proofs.Yteinfkjlcpfeiaa
open Go.RowKit
set_option linter.unusedVariables false

def Panics (w : World) (e : Ending) (w' : World) : Prop := (∃ v, e = .panicked [{ v := .iface 26 v, recovered := false }]) ∧ Below w.heap.size w w'
abbrev contV (v : Int) (A : Option Addr) (n c : Nat) : Value := .agg #[.int .u32 v, .slice A n c]

theorem part_nil (n : Int) (w : World) : Calls Try.prog 105 #[.slice none 0 0, .int .i64 n] w (Panics w) := by
  have hnil := fun w => Lib.run_eql_slice_nil (P := Try.prog) w 31 5 none 0 0 0 0 Try.underlying31
  have hbel : Below w.heap.size w (w.alloc (.cells #[.int .u32 0, .slice none 0 0] 109)) := (Below.refl _ _).alloc (Nat.le_refl _) _
  have B := Lib.hid hbel
  clear hbel
  go_enter Try.func105, Try.ntmps105
  go_wp2
  exact ⟨rfl, ⟨_, rfl⟩, B.out⟩

set_option maxRecDepth 100000 in
set_option maxHeartbeats 3200000 in
theorem part_no1 (n : Int) (b o c : Nat) (T : Txt) (w : World) (hT : Arg w .u8 (some ⟨b, o, none⟩) 32 c T) (hby : ∀ z ∈ T, isByte z) (h : verOf T = 0 ∨ 24 < manyOf T) :
    Calls Try.prog 105 #[.slice (some ⟨b, o, none⟩) 32 c, .int .i64 n] w (Panics w) := by
  have hnil := fun w => Lib.run_eql_slice_nil (P := Try.prog) w 31 5 (some ⟨b, o, none⟩) 32 c 0 0 Try.underlying31
  have hbel : Below w.heap.size w (w.alloc (.cells #[.int .u32 0, .slice none 0 0] 109)) := (Below.refl _ _).alloc (Nat.le_refl _) _
  have B := Lib.hid hbel
  have R := Lib.hid (rowOf_any b o c T _ (hT.below hbel) hby)
  obtain ⟨vv, hvv⟩ : ∃ x, x = verOf T := ⟨_, rfl⟩
  obtain ⟨mm, hmm⟩ : ∃ x, x = manyOf T := ⟨_, rfl⟩
  rw [← hvv, ← hmm] at h R
  clear hbel hT hby hvv hmm
  go_enter Try.func105, Try.ntmps105
  go_wp2_with fail
  refine R.out.mono ?_
  rintro e w2 ⟨n0, rfl, hb2⟩
  have B2 := Lib.hid (B.out.trans (hb2.mono B.out.size))
  have Y := Blk.new w2 135 [.int .u32 vv, .int .i64 n0, .int .i64 mm]
  have B3 := Lib.hid (B2.out.alloc B2.out.size (.cells #[.int .u32 vv, .int .i64 n0, .int .i64 mm] 135))
  have p0 := Y.cell 0
  have p1 := Y.cell 1
  have p2 := Y.cell 2
  simp only [List.getElem?_cons_zero, List.getElem?_cons_succ] at p0 p1 p2
  clear R hb2 B Y
  by_cases hv : vv = 0
  · subst hv
    clear h
    go_wp2
    exact ⟨rfl, ⟨_, rfl⟩, B3.out⟩
  · have hm : 24 < mm := by omega
    have hv2 : (vv == 0) = false := beq_eq_false_iff_ne.2 hv
    clear h
    go_wp2
    exact ⟨rfl, ⟨_, rfl⟩, B3.out⟩

set_option maxRecDepth 100000 in
set_option maxHeartbeats 3200000 in
theorem part_fit (n : Int) (hn : 0 ≤ n ∧ n < 256) (b o c : Nat) (T : Txt) (w : World) (hT : Arg w .u8 (some ⟨b, o, none⟩) 32 c T) (hby : ∀ z ∈ T, isByte z) (hv : verOf T ≠ 0) (hm : manyOf T ≤ 24) :
    Calls Try.prog 105 #[.slice (some ⟨b, o, none⟩) 32 c, .int .i64 n] w fun e w' =>
      (T = partT (verOf T) n (partB T) ∧ e = .returned (contV (verOf T) (some ⟨b, o + 8, none⟩) (partB T).length (c - 8)) ∧ Below w.heap.size w w') ∨ (T ≠ partT (verOf T) n (partB T) ∧ Panics w e w') := by
  have hnil := fun w => Lib.run_eql_slice_nil (P := Try.prog) w 31 5 (some ⟨b, o, none⟩) 32 c 0 0 Try.underlying31
  have hbel : Below w.heap.size w (w.alloc (.cells #[.int .u32 0, .slice none 0 0] 109)) := (Below.refl _ _).alloc (Nat.le_refl _) _
  have B := Lib.hid hbel
  have X := Lib.hid (Blk.new w 109 [.int .u32 0, .slice none 0 0])
  have R := Lib.hid (rowOf_any b o c T _ (hT.below hbel) hby)
  have hpl := partB_length hT.len hby hm
  have hvb := ver_bounds (t := T) (by rw [hT.len]; decide) hby
  obtain ⟨m, hml⟩ : ∃ x, x = (partB T).length := ⟨_, rfl⟩
  rw [← hml] at hpl
  rw [← hml]
  have hpt : partT (verOf T) n (partB T) = rowT (verOf T) n m ++ partB T ++ List.replicate (24 - (partB T).length) 0 := by unfold partT; rw [hml]
  have hm24 : m ≤ 24 := by omega
  have hcc := hT.cap
  have hmax := hT.max
  have HT := Lib.hid hT
  have HPT := Lib.hid hpt
  have HBY := Lib.hid hby
  have HN := Lib.hid hn
  have HPB := Lib.hid (show ∀ wx, Below w.heap.size w wx → Arg wx .u8 (some ⟨b, o + 8, none⟩) m (c - 8) (partB T) from fun wx hx => by
    have h2 := hT.below hx
    refine ⟨?_, hml.symm, by omega, by omega⟩
    have h3 := (h2.seq.drop 8).take (manyOf T).toNat
    unfold partB
    unfold ints at h3 ⊢
    rwa [← List.map_drop, ← List.map_take] at h3)
  have HPY := Lib.hid (partB_byte hby)
  rw [← hpl] at R
  obtain ⟨vv, hvv⟩ : ∃ x, x = verOf T := ⟨_, rfl⟩
  obtain ⟨PB, hPB⟩ : ∃ x, x = partB T := ⟨_, rfl⟩
  rw [← hvv] at hv hvb R HPT ⊢
  rw [← hPB] at HPT HPB HPY ⊢
  have HVB := Lib.hid hvb
  have hv2 : (vv == 0) = false := beq_eq_false_iff_ne.2 hv
  have HML := Lib.hid (show m = PB.length by rw [hPB]; exact hml)
  clear hbel hT hby hvv hpl hvb hml hpt hm hPB hn hv
  unfold maxLen at hmax
  go_enter Try.func105, Try.ntmps105
  go_wp2_with fail
  refine R.out.mono ?_
  rintro e w2 ⟨n0, rfl, hb2⟩
  have B2 := Lib.hid (B.out.trans (hb2.mono B.out.size))
  have X2 := X.out.below hb2 X.out.lt
  have Y := Blk.new w2 135 [.int .u32 vv, .int .i64 n0, .int .i64 m]
  have Y4 := Lib.hid (Blk.new w2 135 [.int .u32 vv, .int .i64 n, .int .i64 m])
  have hb4 : Below w2.heap.size w2 (w2.alloc (.cells #[.int .u32 vv, .int .i64 n, .int .i64 m] 135)) := (Below.refl _ _).alloc (Nat.le_refl _) _
  have X4 := Lib.hid (X2.below hb4 X2.lt)
  have B4 := Lib.hid (B2.out.trans (hb4.mono B2.out.size))
  have p0 := Y.cell 0
  have p1 := Y.cell 1
  have p2 := Y.cell 2
  simp only [List.getElem?_cons_zero, List.getElem?_cons_succ] at p0 p1 p2
  have h24 : ¬ (24 : Int) < (m : Int) := by omega
  have h8c : (8 : Int) + (m : Int) ≤ (c : Int) := by omega
  clear R hb2 B Y X2 hb4 X B2
  go_wp2_with fail
  obtain ⟨v4, hW⟩ : ∃ x : World, x = w2.alloc (.cells #[.int .u32 vv, .int .i64 n, .int .i64 m] 135) := ⟨_, rfl⟩
  rw [← hW] at X4 Y4 B4 ⊢
  clear hW p0 p1 p2
  refine (text_any vv n m HVB.out HN.out (by omega) (some ⟨b, o + 8, none⟩) m (c - 8) PB v4 (HPB.out _ B4.out) hm24).mono ?_
  rintro e w3 ⟨g, rfl, hown, hb3⟩
  rw [← HPT.out] at hown
  have Y5 := Y4.out.below hb3 Y4.out.lt
  have X5 := X4.out.below hb3 X4.out.lt
  have hb5 := B4.out.trans (hb3.mono B4.out.size)
  have E := equal_any (some ⟨b, o, none⟩) 32 c T (some ⟨g, 0, none⟩) 32 32 (partT vv n PB) w3 (HT.out.below hb5) (Arg.own hown) HBY.out (partT_byte _ _ HPY.out)
  have B5 := Lib.hid hb5
  have p0 := Y5.cell 0
  have q0 := X5.cell 0
  have q1 := X5.cell 1
  have f0 := X5.free 0
  have f1 := X5.free 1
  simp only [List.getElem?_cons_zero, List.getElem?_cons_succ] at p0 q0 q1
  have X6 := Lib.hid X5
  by_cases hq : T = partT vv n PB
  · rw [decide_eq_true hq] at E
    have E := Lib.hid E
    have HQ := Lib.hid hq
    clear hown hb3 Y5 X5 hb5 hq
    go_wp2_with fail
    refine E.out.mono ?_
    rintro e w6 ⟨rfl, rfl⟩
    go_wp2
    have z := X6.out.two (.int .u32 vv) (.slice (some ⟨b, o + 8, none⟩) m (c - 8))
    have z0 := z.cell 0
    have z1 := z.cell 1
    simp only [List.getElem?_cons_zero, List.getElem?_cons_succ] at z0 z1
    refine bodyPost_ret (v := contV vv (some ⟨b, o + 8, none⟩) m (c - 8)) ?_ rfl (.inl ⟨HQ.out, rfl, below_two B5.out (Nat.le_refl _) _ _⟩)
    clear p0 q0 q1 f0 f1
    simp [results, Try.f105, go_sem, z0, z1]
  · rw [decide_eq_false hq] at E
    have E := Lib.hid E
    have HQ := Lib.hid hq
    clear hown hb3 Y5 X5 hb5 hq
    go_wp2_with fail
    refine E.out.mono ?_
    rintro e w6 ⟨rfl, rfl⟩
    go_wp2
    exact ⟨rfl, .inr ⟨HQ.out, ⟨_, rfl⟩, B5.out⟩⟩

end Go.Proofs.Yteinfkjlcpfeiaa
