/- Layer 10: the document's Notes, Scan, Plan. -/
import Derived.Test.YteapaoefgcnicaaJrnR2
import Derived.Deep.RegionHeld3
namespace Go.Proofs.Yteapaoefgcnicaa
open Go.RowKit
set_option linter.unusedVariables false

theorem noteO_byte {S : List Sec} {C : List Pnd} (hS : ∀ s ∈ S, ∀ z ∈ s.2, isByte z) (hC : ∀ p ∈ C, ∀ z ∈ p.2, isByte z) (g j x : Int) : ∀ z ∈ noteO g j (optAt S C x), isByte z := by
  unfold optAt
  by_cases h : rdE S C x = 0
  · rw [if_pos h]
    exact noteT_byte g j (rd_good h hS hC).2
  · rw [if_neg h]
    intro z hz
    cases hz

set_option maxRecDepth 100000 in
set_option maxHeartbeats 6400000 in
theorem rnotes_any (P T A M W Q : Int) (D : Option Addr) (n c : Nat) (D' : Option Addr) (n' c' : Nat) (S : List Sec) (C : List Pnd) (a g : Int) (w : World) (hq : Dsk w D n c D' n' c' S C) (hs : SmallD S C) (hm : mayT P T A M W Q S C) (ha : arJ a) (hg : isG g) :
    Calls Try.prog 32 #[cfgV P T A M W Q, diskV D n c D' n' c', .int .i64 a, .int .u64 g] w fun e w' => ∃ A' c', e = .returned (.slice A' (jN (jf S C A a g) A.toNat).length c') ∧ OwnTxs w' w.heap.size A' (jN (jf S C A a g) A.toNat).length c' (jN (jf S C A a g) A.toNat) ∧ Below w.heap.size w w' := by
  obtain ⟨i1, hi1, hj0, hj1, hj2⟩ := info_parts txts_info
  have hml : (1000 : Nat) ≤ maxLen := by decide
  obtain ⟨x, hbel⟩ := TBox.new P T A M W Q hq
  obtain ⟨w0, hw0⟩ : ∃ x : World, x = (w.alloc (.cells #[.int .i64 P, .int .i64 T, .int .i64 A, .int .i64 M, .int .i64 W, .int .i64 Q] 33)).alloc (.cells #[.slice D n c, .slice D' n' c'] 25) := ⟨_, rfl⟩
  rw [← hw0] at x hbel
  have X := Lib.hid x
  have B := Lib.hid hbel
  have hsl := hq.secs.len
  have hA3 : 3 ≤ A ∧ A ≤ 32 := by
    obtain ⟨c1, c2, c3, c4, c5, c6, c7⟩ := hm.1
    omega
  obtain ⟨K, hK⟩ : ∃ K : Nat, A = (K : Int) := ⟨A.toNat, by omega⟩
  have hKn : A.toNat = K := by omega
  rw [hKn]
  obtain ⟨f, hf⟩ : ∃ f, f = jf S C A a g := ⟨_, rfl⟩
  have FB := Lib.hid (fun j => (by rw [hf]; exact noteO_byte hq.secs.byte hq.pnds.byte g j _ : ∀ z ∈ f j, isByte z))
  have AT := Lib.hid (fun (k : Nat) (hk : k < K) => at_area hm ha (n := k) (by omega))
  have IA0 := Lib.hid (fun (k : Nat) (hk : k < K) (wx : World) => rinarea_any P T A M W Q a k wx hm.1 ⟨ha.1, ha.2, by omega, by omega⟩)
  have NT := Lib.hid (fun (k : Nat) (hk : k < K) (p : Nat) (hp : (p : Int) = 2 + a * A + (k : Int)) wx hx => (show Calls Try.prog 51 #[diskV D n c D' n' c', .int .i64 (p : Int), .int .u64 g, .int .i64 (k : Int)] wx (fun e w' => ∃ A' c', e = .returned (.slice A' (f k).length c') ∧ OwnTxt w' wx.heap.size A' (f k).length c' (f k) ∧ Below wx.heap.size wx w') from by
    have r := rnote_any D n c D' n' c' S C p g k wx hx hs hm.2.1 (by have := (AT.out k hk).2; omega) hg ⟨by omega, by omega⟩
    rw [hp] at r
    rw [hp, hf]
    exact r))
  rw [← hf]
  obtain ⟨J, hJ⟩ : ∃ J, J = jN f K := ⟨_, rfl⟩
  rw [← hJ]
  have HJ := Lib.hid hJ
  obtain ⟨c0, c1, c2, c3, c4, c5, d0, d1⟩ := X.out.cells
  have hK32 : K ≤ 32 := by omega
  have HK := Lib.hid hK
  clear x hbel hq hs hm ha hg hf hJ hKn hsl hK
  go_enter Try.func32, Try.ntmps32
  go_wp2
  rw [← hw0]
  clear hw0 c0 c1 c2 c3 c4 c5 d0 d1
  go_loopw [10, 9] (fun i o wr => ∃ (k : Nat) (A9 : Option Addr) (c9 : Nat), k ≤ K ∧ i = .int .i64 k ∧ o = .slice A9 k c9 ∧ OwnTxs wr w0.heap.size A9 k c9 ((List.range k).map f) ∧ (∀ j, j < k → f j ≠ []) ∧ Below w0.heap.size w0 wr) (fun i _ _ => K - (intOf i).toNat)
  case atStart => exact ⟨0, none, 0, Nat.zero_le _, rfl, rfl, OwnTxs.nil _ _, fun j h => absurd h (Nat.not_lt_zero _), Below.refl _ _⟩
  case round =>
    obtain ⟨k, A9, c9, hk, rfl, rfl, ho, hall, hb0⟩ := hrel
    have ALL := Lib.hid hall
    have O := Lib.hid ho
    have BR := Lib.hid hb0
    have XR := Lib.hid (X.out.below hb0)
    have HKL := Lib.hid hk
    clear ho hall hb0 hk
    obtain ⟨c0, c1, c2, c3, c4, c5, d0, d1⟩ := XR.out.cells
    by_cases hkK : k < K
    · have hkA : (k : Int) < A := by rw [HK.out]; omega
      obtain ⟨p, hp⟩ : ∃ p : Nat, (p : Int) = 2 + a * A + (k : Int) := ⟨(2 + a * A + (k : Int)).toNat, by have := (AT.out k hkK).1; omega⟩
      have IA := Lib.hid (show ∀ wx, Calls Try.prog 33 #[cfgV P T A M W Q, .int .i64 a, .int .i64 (k : Int)] wx (fun e w' => e = .returned (.int .i64 (p : Int)) ∧ Below wx.heap.size wx w') from fun wx => by
        have r := IA0.out k hkK wx
        rw [← hp] at r
        exact r)
      by_cases hfk : f k = []
      · have NK := Lib.hid (show ∀ wx, Dsk wx D n c D' n' c' S C → Calls Try.prog 51 #[diskV D n c D' n' c', .int .i64 (p : Int), .int .u64 g, .int .i64 (k : Int)] wx (fun e w' => ∃ A' c', e = .returned (.slice A' 0 c') ∧ Below wx.heap.size wx w') from fun wx hx => (NT.out k hkK p hp wx hx).mono fun e w' h => by
          obtain ⟨A', c', h1, _, h3⟩ := h
          rw [hfk] at h1
          exact ⟨A', c', h1, h3⟩)
        have hJk : J = (List.range k).map f := by
          rw [HJ.out]
          unfold jN
          rw [jM_is HKL.out ALL.out (.inr hfk)]
        have HJK := Lib.hid hJk
        have HLN := Lib.hid (show J.length = k by rw [hJk, List.length_map, List.length_range])
        clear hfk hJk hp NT
        go_upto_region 5 with fail
        clear c0 c1 c2 c3 c4 c5 d0 d1
        have hcur : Below wr.heap.size wr wr.drew := below_drewN (Below.refl _ _) 1
        have keepX : ∀ wx, Below wr.heap.size wr wx → wx.cell? ⟨w.heap.size, 0, none⟩ = some (.int .i64 P) ∧ wx.cell? ⟨w.heap.size, 1, none⟩ = some (.int .i64 T) ∧ wx.cell? ⟨w.heap.size, 2, none⟩ = some (.int .i64 A) ∧ wx.cell? ⟨w.heap.size, 3, none⟩ = some (.int .i64 M) ∧ wx.cell? ⟨w.heap.size, 4, none⟩ = some (.int .i64 W) ∧ wx.cell? ⟨w.heap.size, 5, none⟩ = some (.int .i64 Q) ∧ wx.cell? ⟨w.heap.size + 1, 0, none⟩ = some (.slice D n c) ∧ wx.cell? ⟨w.heap.size + 1, 1, none⟩ = some (.slice D' n' c') := fun wx hx => (XR.out.below hx).cells
        have hkX := keepX _ hcur
        go_region_held3 (fun w' => w'.cell? ⟨w.heap.size, 0, none⟩ = some (.int .i64 P) ∧ w'.cell? ⟨w.heap.size, 1, none⟩ = some (.int .i64 T) ∧ w'.cell? ⟨w.heap.size, 2, none⟩ = some (.int .i64 A) ∧ w'.cell? ⟨w.heap.size, 3, none⟩ = some (.int .i64 M) ∧ w'.cell? ⟨w.heap.size, 4, none⟩ = some (.int .i64 W) ∧ w'.cell? ⟨w.heap.size, 5, none⟩ = some (.int .i64 Q) ∧ w'.cell? ⟨w.heap.size + 1, 0, none⟩ = some (.slice D n c) ∧ w'.cell? ⟨w.heap.size + 1, 1, none⟩ = some (.slice D' n' c'))
          (first | exact hkX | go_keep)
          (first
            | (go_at_call 33; with_reducible refine (IA.out _).mono ?_; rintro e w2 ⟨rfl, hb⟩; have hcur := hcur.trans (hb.mono hcur.size); have hkX := keepX _ hcur)
            | (go_at_call 51; have hM := hcur.size; with_reducible refine (NK.out _ (XR.out.below hcur).dsk.dsk).mono ?_; rintro e w3 ⟨A3, c3, rfl, hb⟩; have hcur := hcur.trans (hb.mono hcur.size); have hkX := keepX _ hcur))
        have O := Lib.hid (O.out.below hcur)
        have BF := Lib.hid (BR.out.trans (hcur.mono BR.out.size))
        clear hcur hkX keepX hM hb
        go_wp2
        go_ret
        refine ⟨A9, c9, by rw [HLN.out]; rfl, ?_, B.out.trans (BF.out.mono B.out.size)⟩
        rw [HLN.out, HJK.out]
        exact O.out.lower B.out.size
      · have HFK := Lib.hid hfk
        have NK := Lib.hid (NT.out k hkK p hp)
        have HFB := Lib.hid (FB.out k)
        obtain ⟨t, ht⟩ : ∃ t, t = f k := ⟨_, rfl⟩
        rw [← ht] at NK HFB
        have HT := Lib.hid ht
        obtain ⟨m, hm⟩ : ∃ m, m = t.length := ⟨_, rfl⟩
        rw [← hm] at NK
        have hm0 : ((m : Int) == 0) = false := beq_eq_false_iff_ne.2 (by
          intro h
          have h2 : t = [] := List.eq_nil_of_length_eq_zero (by omega)
          rw [ht] at h2
          exact hfk h2)
        have hkl : k + 1 ≤ maxLen := by omega
        clear hfk hp ht hm NT
        go_upto_region 5 with fail
        clear c0 c1 c2 c3 c4 c5 d0 d1
        have hcur : Below wr.heap.size wr wr.drew := below_drewN (Below.refl _ _) 1
        have keepX : ∀ wx, Below wr.heap.size wr wx → wx.cell? ⟨w.heap.size, 0, none⟩ = some (.int .i64 P) ∧ wx.cell? ⟨w.heap.size, 1, none⟩ = some (.int .i64 T) ∧ wx.cell? ⟨w.heap.size, 2, none⟩ = some (.int .i64 A) ∧ wx.cell? ⟨w.heap.size, 3, none⟩ = some (.int .i64 M) ∧ wx.cell? ⟨w.heap.size, 4, none⟩ = some (.int .i64 W) ∧ wx.cell? ⟨w.heap.size, 5, none⟩ = some (.int .i64 Q) ∧ wx.cell? ⟨w.heap.size + 1, 0, none⟩ = some (.slice D n c) ∧ wx.cell? ⟨w.heap.size + 1, 1, none⟩ = some (.slice D' n' c') := fun wx hx => (XR.out.below hx).cells
        have hkX := keepX _ hcur
        go_region_held3 (fun w' => w'.cell? ⟨w.heap.size, 0, none⟩ = some (.int .i64 P) ∧ w'.cell? ⟨w.heap.size, 1, none⟩ = some (.int .i64 T) ∧ w'.cell? ⟨w.heap.size, 2, none⟩ = some (.int .i64 A) ∧ w'.cell? ⟨w.heap.size, 3, none⟩ = some (.int .i64 M) ∧ w'.cell? ⟨w.heap.size, 4, none⟩ = some (.int .i64 W) ∧ w'.cell? ⟨w.heap.size, 5, none⟩ = some (.int .i64 Q) ∧ w'.cell? ⟨w.heap.size + 1, 0, none⟩ = some (.slice D n c) ∧ w'.cell? ⟨w.heap.size + 1, 1, none⟩ = some (.slice D' n' c'))
          (first | exact hkX | go_keep)
          (first
            | (go_at_call 33; with_reducible refine (IA.out _).mono ?_; rintro e w2 ⟨rfl, hb⟩; have hcur := hcur.trans (hb.mono hcur.size); have hkX := keepX _ hcur)
            | (go_at_call 51; have hM := hcur.size; with_reducible refine (NK.out _ (XR.out.below hcur).dsk.dsk).mono ?_; rintro e w3 ⟨A3, c3, rfl, hown, hb⟩; have hcur := hcur.trans (hb.mono hcur.size); have hkX := keepX _ hcur))
        have O := Lib.hid (O.out.below hcur)
        have TX := Lib.hid (hown.lower (Nat.le_trans BR.out.size hM))
        have BR2 := Lib.hid (BR.out.trans (hcur.mono BR.out.size))
        clear hcur hkX keepX hM hb hown
        go_wp2_with (at_builtin; (refine wpList_txs w0 _ rfl (.tmp 30) (.tmp 32) _ rfl i1 _ Try.underlying28 hi1 hj0 hj1 hj2 rfl w0.heap.size A9 k c9 ((List.range k).map f) rfl O.out A3 m c3 t HFB.out TX.out rfl hkl (by omega) BR2.out (Nat.le_refl _) ?_); intro A4 c4 w4 hO4 hB4; have O4 := Lib.hid hO4; have B4 := Lib.hid hB4; clear hO4 hB4)
        go_roundw
        case rel =>
          refine ⟨k + 1, A4, c4, by omega, by go_num, rfl, ?_, fun j hj => ?_, ?_⟩
          · rw [List.range_succ, List.map_append, List.map_singleton, ← HT.out]
            exact O4.out
          · by_cases e : j = k
            · rw [e]; exact HFK.out
            · exact ALL.out j (by omega)
          · exact B4.out
        case measure => simp [intOf]; omega
    · obtain rfl : k = K := by have := HKL.out; omega
      have hkA : ¬ (k : Int) < A := by rw [HK.out]; omega
      have hJk : J = (List.range k).map f := by
        rw [HJ.out]
        unfold jN
        rw [jM_is HKL.out ALL.out (.inl rfl)]
      have HJK := Lib.hid hJk
      have HLN := Lib.hid (show J.length = k by rw [hJk, List.length_map, List.length_range])
      clear hJk
      go_wp2
      go_ret
      refine ⟨A9, c9, by rw [HLN.out]; rfl, ?_, B.out.trans (BR.out.mono B.out.size)⟩
      rw [HLN.out, HJK.out]
      exact O.out.lower B.out.size

/-- Texts of the call's own, beside an error. -/
def ScanOut (w : World) (L : List Txt) (E : Int) (e : Ending) (w' : World) : Prop :=
  ∃ A c, e = .returned (.tuple #[.slice A L.length c, .int .i64 E]) ∧ OwnTxs w' w.heap.size A L.length c L ∧ Below w.heap.size w w'
/-- A write of the call's own, beside an error. -/
def PendOut (w : World) (x : Int) (L : Txt) (E : Int) (e : Ending) (w' : World) : Prop :=
  ∃ A c, e = .returned (.tuple #[.agg #[.int .i64 x, .slice A L.length c], .int .i64 E]) ∧ w'.ownsRow w.heap.size 5 1 (.slice A L.length c) L.length (ints .u8 L) ∧ Below w.heap.size w w'
set_option maxRecDepth 100000 in
set_option maxHeartbeats 3200000 in
theorem rscan10_any (P T A M W Q : Int) (D : Option Addr) (n c : Nat) (D' : Option Addr) (n' c' : Nat) (S : List Sec) (C : List Pnd) (a g : Int) (w : World) (hq : Dsk w D n c D' n' c' S C) (hs : SmallD S C) (hg : isG g) :
    Calls Try.prog 17 #[cfgV P T A M W Q, diskV D n c D' n' c', .int .i64 a, .int .u64 g] w (ScanOut w (jsL P T A M W Q S C a g) (jaE P T A M W Q S C a)) := by
  obtain ⟨x, hbel⟩ := TBox.new P T A M W Q hq
  obtain ⟨w0, hw0⟩ : ∃ x : World, x = (w.alloc (.cells #[.int .i64 P, .int .i64 T, .int .i64 A, .int .i64 M, .int .i64 W, .int .i64 Q] 33)).alloc (.cells #[.slice D n c, .slice D' n' c'] 25) := ⟨_, rfl⟩
  rw [← hw0] at x hbel
  have X := Lib.hid x
  have B := Lib.hid hbel
  have AK := Lib.hid (fun wx hx => rasked10_any P T A M W Q D n c D' n' c' S C a wx hx hs)
  obtain ⟨c0, c1, c2, c3, c4, c5, d0, d1⟩ := X.out.cells
  unfold ScanOut
  by_cases h0 : jaE P T A M W Q S C a = 0
  · have hm : mayT P T A M W Q S C ∧ arJ a := by
      unfold jaE at h0
      split at h0
      · split at h0
        · exact ⟨by assumption, by assumption⟩
        · cases h0
      · cases h0
    have NT := Lib.hid (fun wx hx => rnotes_any P T A M W Q D n c D' n' c' S C a g wx hx hs hm.1 hm.2 hg)
    rw [show jsL P T A M W Q S C a g = jN (jf S C A a g) A.toNat from if_pos h0]
    rw [h0] at AK ⊢
    obtain ⟨J, hJ⟩ : ∃ J, J = jN (jf S C A a g) A.toNat := ⟨_, rfl⟩
    rw [← hJ] at NT ⊢
    obtain ⟨m, hm2⟩ : ∃ m, m = J.length := ⟨_, rfl⟩
    rw [← hm2] at NT ⊢
    clear x hbel hq hs hg h0 hm hJ hm2
    go_enter Try.func17, Try.ntmps17
    go_wp2_with fail
    rw [← hw0]
    clear hw0
    refine (AK.out _ X.out.dsk.dsk).mono ?_
    rintro e w1 ⟨rfl, hb⟩
    have B := Lib.hid (B.out.trans (hb.mono B.out.size))
    have X := Lib.hid (X.out.below hb)
    clear hb c0 c1 c2 c3 c4 c5 d0 d1 AK
    obtain ⟨c0, c1, c2, c3, c4, c5, d0, d1⟩ := X.out.cells
    go_wp2_with fail
    refine (NT.out _ X.out.dsk.dsk).mono ?_
    rintro e w2 ⟨A2, c2', rfl, hown, hb⟩
    have O := Lib.hid (hown.lower B.out.size)
    have B := Lib.hid (B.out.trans (hb.mono B.out.size))
    clear hb hown c0 c1 c2 c3 c4 c5 d0 d1 NT
    go_wp2
    go_ret2
    exact ⟨A2, c2', rfl, O.out, B.out⟩
  · rw [show jsL P T A M W Q S C a g = [] from if_neg h0]
    obtain ⟨E, hE⟩ : ∃ E, E = jaE P T A M W Q S C a := ⟨_, rfl⟩
    rw [← hE] at AK h0 ⊢
    have h1 : (E != 0) = true := bne_iff_ne.2 h0
    clear x hbel hq hs hg h0 hE
    go_enter Try.func17, Try.ntmps17
    go_wp2_with fail
    rw [← hw0]
    clear hw0
    refine (AK.out _ X.out.dsk.dsk).mono ?_
    rintro e w1 ⟨rfl, hb⟩
    have B := Lib.hid (B.out.trans (hb.mono B.out.size))
    clear hb c0 c1 c2 c3 c4 c5 d0 d1 AK
    go_wp2
    go_ret2
    exact ⟨none, 0, rfl, OwnTxs.nil _ _, B.out⟩

/-- A config, a disk and a write, each in its box. -/
structure JBox (w : World) (G : Nat) (P T A M W Q : Int) (D : Option Addr) (n c : Nat) (D' : Option Addr) (n' c' : Nat) (S : List Sec) (C : List Pnd) : Prop where
  two : TBox w G P T A M W Q D n c D' n' c' S C
  pnd : Blk w (G + 2) 40 [.int .i64 0, .slice none 0 0]
section
variable {w w' : World} {G : Nat} {P T A M W Q : Int} {D D' : Option Addr} {n c n' c' : Nat} {S : List Sec} {C : List Pnd}
theorem JBox.below (x : JBox w G P T A M W Q D n c D' n' c' S C) (hb : Below w.heap.size w w') : JBox w' G P T A M W Q D n c D' n' c' S C := ⟨x.two.below hb, x.pnd.below hb x.pnd.lt⟩
theorem JBox.new (P T A M W Q : Int) (t : Dsk w D n c D' n' c' S C) : JBox (((w.alloc (.cells #[.int .i64 P, .int .i64 T, .int .i64 A, .int .i64 M, .int .i64 W, .int .i64 Q] 33)).alloc (.cells #[.slice D n c, .slice D' n' c'] 25)).alloc (.cells #[.int .i64 0, .slice none 0 0] 40)) w.heap.size P T A M W Q D n c D' n' c' S C ∧ Below w.heap.size w (((w.alloc (.cells #[.int .i64 P, .int .i64 T, .int .i64 A, .int .i64 M, .int .i64 W, .int .i64 Q] 33)).alloc (.cells #[.slice D n c, .slice D' n' c'] 25)).alloc (.cells #[.int .i64 0, .slice none 0 0] 40)) := by
  obtain ⟨x, hb⟩ := TBox.new P T A M W Q t
  have hk := (Below.refl ((w.alloc (.cells #[.int .i64 P, .int .i64 T, .int .i64 A, .int .i64 M, .int .i64 W, .int .i64 Q] 33)).alloc (.cells #[.slice D n c, .slice D' n' c'] 25)).heap.size _).alloc (Nat.le_refl _) (.cells #[.int .i64 0, .slice none 0 0] 40)
  have y := Blk.new ((w.alloc (.cells #[.int .i64 P, .int .i64 T, .int .i64 A, .int .i64 M, .int .i64 W, .int .i64 Q] 33)).alloc (.cells #[.slice D n c, .slice D' n' c'] 25)) 40 [.int .i64 0, .slice none 0 0]
  rw [World.size_alloc, World.size_alloc] at y
  exact ⟨⟨x.below hk, y⟩, hb.alloc hb.size _⟩
end

set_option maxRecDepth 100000 in
set_option maxHeartbeats 3200000 in
theorem rplan10_any (P T A M W Q : Int) (D : Option Addr) (n c : Nat) (D' : Option Addr) (n' c' : Nat) (S : List Sec) (C : List Pnd) (a g j : Int) (Ab : Option Addr) (nb cb : Nat) (b : Txt) (w : World) (hq : Dsk w D n c D' n' c' S C) (hs : SmallD S C) (hg : isG g) (hb0 : Arg w .u8 Ab nb cb b) :
    Calls Try.prog 20 #[cfgV P T A M W Q, diskV D n c D' n' c', .int .i64 a, .int .u64 g, .int .i64 j, .slice Ab nb cb] w (PendOut w (jpN P T A M W Q S C a j b) (jpB P T A M W Q S C a g j b) (jpE P T A M W Q S C a j b)) := by
  obtain ⟨x, hbel⟩ := JBox.new P T A M W Q hq
  obtain ⟨w0, hw0⟩ : ∃ x : World, x = ((w.alloc (.cells #[.int .i64 P, .int .i64 T, .int .i64 A, .int .i64 M, .int .i64 W, .int .i64 Q] 33)).alloc (.cells #[.slice D n c, .slice D' n' c'] 25)).alloc (.cells #[.int .i64 0, .slice none 0 0] 40) := ⟨_, rfl⟩
  rw [← hw0] at x hbel
  have X := Lib.hid x
  have B := Lib.hid hbel
  have RB := Lib.hid (hb0.below hbel)
  have AK := Lib.hid (fun wx hx => rasked10_any P T A M W Q D n c D' n' c' S C a wx hx hs)
  have TX := Lib.hid (fun wx (hr : Arg wx .u8 Ab nb cb b) => rtext10_any g j hg Ab nb cb b wx hr)
  unfold RowOut at TX
  obtain ⟨c0, c1, c2, c3, c4, c5, d0, d1⟩ := X.out.two.cells
  unfold PendOut
  by_cases hp : jpE P T A M W Q S C a j b = 0
  · rw [show jpN P T A M W Q S C a j b = 2 + a * A + j from if_pos hp, show jpB P T A M W Q S C a g j b = jT g j b from if_pos hp, hp]
    have hh : jaE P T A M W Q S C a = 0 ∧ 0 ≤ j ∧ j < A ∧ jtE j b = 0 := by
      unfold jpE at hp
      split at hp
      · split at hp
        · split at hp
          · exact ⟨by assumption, by assumption, by assumption, hp⟩
          · cases hp
        · cases hp
      · rename_i h; exact absurd hp h
    obtain ⟨h0, h1, h2, h3⟩ := hh
    have hm : mayT P T A M W Q S C ∧ arJ a := by
      unfold jaE at h0
      split at h0
      · split at h0
        · exact ⟨by assumption, by assumption⟩
        · cases h0
      · cases h0
    have IA := Lib.hid (fun wx : World => rinarea_any P T A M W Q a j wx hm.1.1 ⟨hm.2.1, hm.2.2, h1, by omega⟩)
    rw [h0] at AK
    rw [h3, show jtB g j b = jT g j b from if_pos h3] at TX
    obtain ⟨p, hpp⟩ : ∃ p, p = 2 + a * A + j := ⟨_, rfl⟩
    rw [← hpp] at IA ⊢
    obtain ⟨t, ht⟩ : ∃ t, t = jT g j b := ⟨_, rfl⟩
    rw [← ht] at TX ⊢
    obtain ⟨m, hmm⟩ : ∃ m, m = t.length := ⟨_, rfl⟩
    rw [← hmm] at TX ⊢
    have q1 : ¬ j < 0 := by omega
    have q2 : ¬ A ≤ j := by omega
    clear x hbel hq hs hg hb0 hp h0 h1 h2 h3 hm hpp ht hmm
    go_enter Try.func20, Try.ntmps20
    go_wp2_with fail
    rw [← hw0]
    clear hw0
    refine (AK.out _ X.out.two.dsk.dsk).mono ?_
    rintro e w1 ⟨rfl, hb⟩
    have B := Lib.hid (B.out.trans (hb.mono B.out.size))
    have X := Lib.hid (X.out.below hb)
    have RB := Lib.hid (RB.out.below hb)
    clear hb c0 c1 c2 c3 c4 c5 d0 d1 AK
    obtain ⟨c0, c1, c2, c3, c4, c5, d0, d1⟩ := X.out.two.cells
    go_wp2_with fail
    refine (TX.out _ RB.out).mono ?_
    rintro e w2 ⟨A2, c2', rfl, hown, hb⟩
    have O := Lib.hid (owns_base hown B.out.size)
    have B := Lib.hid (B.out.trans (hb.mono B.out.size))
    have X := Lib.hid (X.out.below hb)
    have RB := Lib.hid (RB.out.below hb)
    clear hb hown c0 c1 c2 c3 c4 c5 d0 d1 TX
    obtain ⟨c0, c1, c2, c3, c4, c5, d0, d1⟩ := X.out.two.cells
    go_wp2_with fail
    refine (IA.out _).mono ?_
    rintro e w3 ⟨rfl, hb⟩
    have O := Lib.hid (owns_below O.out hb)
    have B := Lib.hid (B.out.trans (hb.mono B.out.size))
    have X := Lib.hid (X.out.below hb)
    have RB := Lib.hid (RB.out.below hb)
    clear hb c0 c1 c2 c3 c4 c5 d0 d1 IA
    have PB := Lib.hid X.out.pnd
    have y0 := PB.out.cell 0
    have y1 := PB.out.cell 1
    have f0 := PB.out.free 0
    have f1 := PB.out.free 1
    simp only [List.getElem?_cons_zero, List.getElem?_cons_succ] at y0 y1
    go_wp2
    have r := PB.out.two (.int .i64 p) (.slice A2 m c2')
    have r0 := r.cell 0
    have r1 := r.cell 1
    simp only [List.getElem?_cons_zero, List.getElem?_cons_succ] at r0 r1
    refine bodyPost_ret (v := .tuple #[.agg #[.int .i64 p, .slice A2 m c2'], .int .i64 0]) ?_ rfl ⟨A2, c2', rfl, owns_other_box (owns_other_box O.out PB.out (by decide) 0 _) (PB.out.set 0 _) (by decide) 1 _, below_two B.out (by omega) _ _⟩
    clear y0 y1 f0 f1
    simp [results, Try.f20, go_sem, r0, r1]
  · rw [show jpN P T A M W Q S C a j b = 0 from if_neg hp, show jpB P T A M W Q S C a g j b = [] from if_neg hp]
    by_cases h0 : jaE P T A M W Q S C a = 0
    · rw [h0] at AK
      by_cases h1 : 0 ≤ j
      · have q1 : ¬ j < 0 := by omega
        by_cases h2 : j < A
        · have q2 : ¬ A ≤ j := by omega
          rw [show jpE P T A M W Q S C a j b = jtE j b from (if_pos h0).trans ((if_pos h1).trans (if_pos h2))] at hp ⊢
          obtain ⟨E, hE⟩ : ∃ E, E = jtE j b := ⟨_, rfl⟩
          rw [← hE] at TX hp ⊢
          obtain ⟨m, hmm⟩ : ∃ m, m = (jtB g j b).length := ⟨_, rfl⟩
          rw [← hmm] at TX
          have q3 : (E != 0) = true := bne_iff_ne.2 hp
          clear x hbel hq hs hg hb0 hp h0 h1 h2 hE hmm
          go_enter Try.func20, Try.ntmps20
          go_wp2_with fail
          rw [← hw0]
          clear hw0
          refine (AK.out _ X.out.two.dsk.dsk).mono ?_
          rintro e w1 ⟨rfl, hb⟩
          have B := Lib.hid (B.out.trans (hb.mono B.out.size))
          have X := Lib.hid (X.out.below hb)
          have RB := Lib.hid (RB.out.below hb)
          clear hb c0 c1 c2 c3 c4 c5 d0 d1 AK
          obtain ⟨c0, c1, c2, c3, c4, c5, d0, d1⟩ := X.out.two.cells
          go_wp2_with fail
          refine (TX.out _ RB.out).mono ?_
          rintro e w2 ⟨A2, c2', rfl, hown, hb⟩
          have B := Lib.hid (B.out.trans (hb.mono B.out.size))
          have X := Lib.hid (X.out.below hb)
          have RB := Lib.hid (RB.out.below hb)
          clear hb hown c0 c1 c2 c3 c4 c5 d0 d1 TX
          have PB := Lib.hid X.out.pnd
          have y0 := PB.out.cell 0
          have y1 := PB.out.cell 1
          have f0 := PB.out.free 0
          have f1 := PB.out.free 1
          simp only [List.getElem?_cons_zero, List.getElem?_cons_succ] at y0 y1
          go_wp2
          have r := PB.out.two (.int .i64 0) (.slice none 0 0)
          have r0 := r.cell 0
          have r1 := r.cell 1
          simp only [List.getElem?_cons_zero, List.getElem?_cons_succ] at r0 r1
          refine bodyPost_ret (v := .tuple #[.agg #[.int .i64 0, .slice none 0 0], .int .i64 E]) ?_ rfl ⟨none, 0, rfl, World.ownsRow_nil _ _ _ _, below_two B.out (by omega) _ _⟩
          clear y0 y1 f0 f1
          simp [results, Try.f20, go_sem, r0, r1]
        · have q2 : A ≤ j := by omega
          rw [show jpE P T A M W Q S C a j b = 9 from (if_pos h0).trans ((if_pos h1).trans (if_neg h2))]
          clear x hbel hq hs hg hb0 hp h0 h1 h2 TX
          go_enter Try.func20, Try.ntmps20
          go_wp2_with fail
          rw [← hw0]
          clear hw0
          refine (AK.out _ X.out.two.dsk.dsk).mono ?_
          rintro e w1 ⟨rfl, hb⟩
          have B := Lib.hid (B.out.trans (hb.mono B.out.size))
          have X := Lib.hid (X.out.below hb)
          have RB := Lib.hid (RB.out.below hb)
          clear hb c0 c1 c2 c3 c4 c5 d0 d1 AK
          obtain ⟨c0, c1, c2, c3, c4, c5, d0, d1⟩ := X.out.two.cells
          have PB := Lib.hid X.out.pnd
          have y0 := PB.out.cell 0
          have y1 := PB.out.cell 1
          have f0 := PB.out.free 0
          have f1 := PB.out.free 1
          simp only [List.getElem?_cons_zero, List.getElem?_cons_succ] at y0 y1
          go_wp2
          have r := PB.out.two (.int .i64 0) (.slice none 0 0)
          have r0 := r.cell 0
          have r1 := r.cell 1
          simp only [List.getElem?_cons_zero, List.getElem?_cons_succ] at r0 r1
          refine bodyPost_ret (v := .tuple #[.agg #[.int .i64 0, .slice none 0 0], .int .i64 9]) ?_ rfl ⟨none, 0, rfl, World.ownsRow_nil _ _ _ _, below_two B.out (by omega) _ _⟩
          clear y0 y1 f0 f1
          simp [results, Try.f20, go_sem, r0, r1]
      · have q1 : j < 0 := by omega
        rw [show jpE P T A M W Q S C a j b = 2 from (if_pos h0).trans (if_neg h1)]
        clear x hbel hq hs hg hb0 hp h0 h1 TX
        go_enter Try.func20, Try.ntmps20
        go_wp2_with fail
        rw [← hw0]
        clear hw0
        refine (AK.out _ X.out.two.dsk.dsk).mono ?_
        rintro e w1 ⟨rfl, hb⟩
        have B := Lib.hid (B.out.trans (hb.mono B.out.size))
        have X := Lib.hid (X.out.below hb)
        have RB := Lib.hid (RB.out.below hb)
        clear hb c0 c1 c2 c3 c4 c5 d0 d1 AK
        obtain ⟨c0, c1, c2, c3, c4, c5, d0, d1⟩ := X.out.two.cells
        have PB := Lib.hid X.out.pnd
        have y0 := PB.out.cell 0
        have y1 := PB.out.cell 1
        have f0 := PB.out.free 0
        have f1 := PB.out.free 1
        simp only [List.getElem?_cons_zero, List.getElem?_cons_succ] at y0 y1
        go_wp2
        have r := PB.out.two (.int .i64 0) (.slice none 0 0)
        have r0 := r.cell 0
        have r1 := r.cell 1
        simp only [List.getElem?_cons_zero, List.getElem?_cons_succ] at r0 r1
        refine bodyPost_ret (v := .tuple #[.agg #[.int .i64 0, .slice none 0 0], .int .i64 2]) ?_ rfl ⟨none, 0, rfl, World.ownsRow_nil _ _ _ _, below_two B.out (by omega) _ _⟩
        clear y0 y1 f0 f1
        simp [results, Try.f20, go_sem, r0, r1]
    · rw [show jpE P T A M W Q S C a j b = jaE P T A M W Q S C a from if_neg h0]
      obtain ⟨E, hE⟩ : ∃ E, E = jaE P T A M W Q S C a := ⟨_, rfl⟩
      rw [← hE] at AK h0 ⊢
      have q1 : (E != 0) = true := bne_iff_ne.2 h0
      have q2 : (E == 0) = false := beq_eq_false_iff_ne.2 h0
      clear x hbel hq hs hg hb0 hp h0 hE TX
      go_enter Try.func20, Try.ntmps20
      go_wp2_with fail
      rw [← hw0]
      clear hw0
      refine (AK.out _ X.out.two.dsk.dsk).mono ?_
      rintro e w1 ⟨rfl, hb⟩
      have B := Lib.hid (B.out.trans (hb.mono B.out.size))
      have X := Lib.hid (X.out.below hb)
      have RB := Lib.hid (RB.out.below hb)
      clear hb c0 c1 c2 c3 c4 c5 d0 d1 AK
      obtain ⟨c0, c1, c2, c3, c4, c5, d0, d1⟩ := X.out.two.cells
      have PB := Lib.hid X.out.pnd
      have y0 := PB.out.cell 0
      have y1 := PB.out.cell 1
      have f0 := PB.out.free 0
      have f1 := PB.out.free 1
      simp only [List.getElem?_cons_zero, List.getElem?_cons_succ] at y0 y1
      go_wp2
      have r := PB.out.two (.int .i64 0) (.slice none 0 0)
      have r0 := r.cell 0
      have r1 := r.cell 1
      simp only [List.getElem?_cons_zero, List.getElem?_cons_succ] at r0 r1
      refine bodyPost_ret (v := .tuple #[.agg #[.int .i64 0, .slice none 0 0], .int .i64 E]) ?_ rfl ⟨none, 0, rfl, World.ownsRow_nil _ _ _ _, below_two B.out (by omega) _ _⟩
      clear y0 y1 f0 f1
      simp [results, Try.f20, go_sem, r0, r1]

end Go.Proofs.Yteapaoefgcnicaa
