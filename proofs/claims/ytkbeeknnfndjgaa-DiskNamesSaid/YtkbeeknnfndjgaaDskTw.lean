/- Layer 5, package disk: Twin. -/
import Derived.Test.YtkbeeknnfndjgaaDskTs
import Derived.Test.YtkbeeknnfndjgaaDskSm
import Derived.Deep.RegionWith
import Derived.Deep.Cut
import Derived.Lib.QuoteBits
namespace Go.Proofs.Ytkbeeknnfndjgaa
open Go.RowKit
set_option linter.unusedVariables false

theorem make_store (K : Nat) (hK : K ≤ 10000) (w : World) :
    (Instr.makeSlice 98 (.int .i64 0) (.int .i64 (K : Int))).run Try.prog w = .ok (.slice (some ⟨w.heap.size, 0, none⟩) 0 K) (w.alloc (.cells (rep K (.int .u8 0)) 5)) := by
  obtain ⟨i, hi, hz, h1, hb⟩ := info_parts byte_info
  have hr := run_make (P := Try.prog) w 98 5 i _ Try.underlying98 hi hz .i64 .i64 0 K (by omega) (by omega) (by rw [hb]; omega) (by omega)
  simp only [Int.toNat_natCast, Int.toNat_zero, h1, Nat.mul_one, Value.cells] at hr
  rw [hr]
  have he : madeCells #[.int .u8 0] K = rep K (.int .u8 0) := by
    have := toList_madeCells_one (.int .u8 0) K
    rw [rep, ← this]
  rw [he]

theorem Blk.two_away {w : World} {G : Nat} {t : TypeId} {cs : List Value} (h : Blk w (G + 1) t cs) (x y : Value) : Blk ((w.setCell ⟨G, 0, none⟩ x).setCell ⟨G, 1, none⟩ y) (G + 1) t cs := (h.away (by omega) 0 x).away (by omega) 1 y
theorem Blk.two_away3 {w : World} {G : Nat} {t : TypeId} {cs : List Value} (h : Blk w (G + 3) t cs) (x y : Value) : Blk ((w.setCell ⟨G, 0, none⟩ x).setCell ⟨G, 1, none⟩ y) (G + 3) t cs := (h.away (by omega) 0 x).away (by omega) 1 y

set_option maxRecDepth 100000 in
set_option maxHeartbeats 6400000 in
theorem ptwin_any (A : Option Addr) (n c : Nat) (A' : Option Addr) (n' c' : Nat) (S : List Sec) (C : List Pnd) (w : World) (hq : Dsk w A n c A' n' c' S C) (hs : SmallD S C) :
    Calls Try.prog 35 #[diskV A n c A' n' c'] w fun e w' => ∃ B d B' d', e = .returned (diskV B n d B' n' d') ∧ OwnDsk w' w.heap.size B n d B' n' d' S C ∧ Below w.heap.size w w' := by
  have hl := hq.secs.len
  have hl' := hq.pnds.len
  have hn : n ≤ 100 := by rw [← hl]; exact hs.secs
  have hn' : n' ≤ 100 := by rw [← hl']; exact hs.pnds
  obtain ⟨b1, b2, hb⟩ := boxes2 w A n c A' n' c' none 0 0 none 0 0
  obtain ⟨w1, hw1⟩ : ∃ w1, w1 = (w.alloc (.cells #[.slice A n c, .slice A' n' c'] 25)).alloc (.cells #[.slice none 0 0, .slice none 0 0] 25) := ⟨_, rfl⟩
  have hsz1 : w1.heap.size = w.heap.size + 2 := by rw [hw1]; simp
  rw [← hw1] at b1 b2 hb
  obtain ⟨K, hK⟩ : ∃ K, K = (n + n') * 32 := ⟨_, rfl⟩
  have hK2 : ((n : Int) + (n' : Int)) * 32 = (K : Int) := by rw [hK]; simp
  have hK1 : K ≤ 10000 := by omega
  have hwr1 : IntKind.i64.wrap ((n : Int) + (n' : Int)) = (n : Int) + (n' : Int) := Lib.wrap_i64_small (n + n') (by omega)
  have hwr2 : IntKind.i64.wrap (K : Int) = (K : Int) := Lib.wrap_i64_small K (by omega)
  have hmk := make_store K hK1 w1
  obtain ⟨w2, hw2⟩ : ∃ w2, w2 = w1.alloc (.cells (rep K (.int .u8 0)) 5) := ⟨_, rfl⟩
  rw [← hw2, hsz1] at hmk
  have hsz2 : w2.heap.size = w.heap.size + 3 := by rw [hw2]; simp [hsz1]
  have hmem : w2.ownsRow w.heap.size 5 1 (.slice (some ⟨w.heap.size + 2, 0, none⟩) 0 K) 0 (ints .u8 []) := by
    refine ⟨by simp [ints], .inr ⟨w.heap.size + 2, K, rep K (.int .u8 0), rfl, by omega, ?_, Nat.zero_le _, Nat.le_trans hK1 (by decide), by simp [rep], by simp [ints]⟩⟩
    rw [hw2, ← hsz1]
    exact heap_alloc_new w1 _
  have hb12 : Below w1.heap.size w1 w2 := by rw [hw2]; exact (Below.refl _ _).alloc (Nat.le_refl _) _
  obtain ⟨w3, hw3⟩ : ∃ w3, w3 = w2.alloc (.cells #[.slice (some ⟨w.heap.size + 2, 0, none⟩) 0 K] 98) := ⟨_, rfl⟩
  have hb23 : Below w2.heap.size w2 w3 := by rw [hw3]; exact (Below.refl _ _).alloc (Nat.le_refl _) _
  have hsz3 : w3.heap.size = w.heap.size + 4 := by rw [hw3]; simp [hsz2]
  have hb13 : Below w1.heap.size w1 w3 := hb12.trans (hb23.mono hb12.size)
  have x1 : Blk w3 w.heap.size 25 [.slice A n c, .slice A' n' c'] := b1.below hb13 b1.lt
  have x2 : Blk w3 (w.heap.size + 1) 25 [.slice none 0 0, .slice none 0 0] := b2.below hb13 b2.lt
  have x3 : Blk w3 (w.heap.size + 3) 98 [.slice (some ⟨w.heap.size + 2, 0, none⟩) 0 K] := by
    rw [hw3, ← hsz2]; exact Blk.new w2 98 _
  have hmem3 := owns_below hmem hb23
  have hb03 : Below w.heap.size w w3 := hb.trans (hb13.mono hb.size)
  have HQ := hq.below hb03
  have q0 := b1.cell 0
  have q1 := b1.cell 1
  have r0 := x1.cell 0
  have r1 := x1.cell 1
  simp only [List.getElem?_cons_zero, List.getElem?_cons_succ] at q0 q1 r0 r1
  have B3 := Lib.hid hb03
  have X1 := Lib.hid x1
  have X2 := Lib.hid x2
  have X3 := Lib.hid x3
  have MEM := Lib.hid hmem3
  have H := Lib.hid hq
  have HQ := Lib.hid HQ
  have SM := Lib.hid hs
  rw [hw1] at hmk
  clear hw1 hw2 hK hq hs hb hb12 hb23 hb13 x1 x2 x3 hmem hmem3 hb03 hl hl' b1 b2
  go_enter Try.func35, Try.ntmps35
  go_upto_region 2 with fail
  rw [← hw3]
  clear hw3 hmk hK2 hwr1 hwr2 q0 q1
  have CS := Lib.hid (cloneSecs_any A n c S w w3.drew H.out.secs (below_drewN B3.out 1) (by omega))
  have CP := Lib.hid (fun w4 (hb : Below w3.heap.size w3 w4) => clonePnds_any A' n' c' C w w4 H.out.pnds (B3.out.trans (hb.mono B3.out.size)) (by omega))
  go_cut [] from 4 (fun wx => ∃ B d B' d' vs vs', Blk wx w.heap.size 25 [.slice B n d, .slice B' n' d'] ∧ wx.ownsRow w.heap.size 39 2 (.slice B n d) n vs ∧ Secs_cells w n S vs ∧ wx.ownsRow w.heap.size 63 2 (.slice B' n' d') n' vs' ∧ Pnds_cells w n' C vs' ∧
      Blk wx (w.heap.size + 1) 25 [.slice none 0 0, .slice none 0 0] ∧ Blk wx (w.heap.size + 3) 98 [.slice (some ⟨w.heap.size + 2, 0, none⟩) 0 K] ∧ wx.ownsRow w.heap.size 5 1 (.slice (some ⟨w.heap.size + 2, 0, none⟩) 0 K) 0 (ints .u8 []) ∧ Below w.heap.size w wx)
  case first =>
    go_region_with ((first | (go_at_call 65; refine CS.out.mono ?_; rintro e w4 ⟨B, d, vs, rfl, hown4, hcs4, hb4⟩; have hb34 : Below w3.heap.size w3 w4 := (below_drewN (Below.refl _ _) 1).trans hb4; have r2 := ((X1.out.below hb34 X1.out.lt).cell 0); have r3 := ((X1.out.below hb34 X1.out.lt).cell 1); simp only [List.getElem?_cons_zero, List.getElem?_cons_succ] at r2 r3; have O4 := Lib.hid hown4; have CS4 := Lib.hid hcs4; have CP4 := Lib.hid (CP.out w4 hb34); have B34 := Lib.hid hb34; clear hown4 hcs4 hb4 hb34) | (go_at_call 66; refine CP4.out.mono ?_; rintro e w5 ⟨B', d', vs', rfl, hown5, hcs5, hb5⟩; have B35 := Lib.hid (B34.out.trans (hb5.mono B34.out.size)); have O4' := Lib.hid (owns_below O4.out hb5); have X5 := Lib.hid (X1.out.below B35.out X1.out.lt); have r4 := X5.out.cell 0; have r5 := X5.out.cell 1; have f4 := X5.out.free 0; have f5 := X5.out.free 1; simp only [List.getElem?_cons_zero, List.getElem?_cons_succ] at r4 r5; have O5 := Lib.hid hown5; have CS5 := Lib.hid hcs5; have B45 := Lib.hid hb5; clear hown5 hcs5 hb5)))
    all_goals (
      go_wp2_with fail
      go_meet
      have y1 : Blk ((w5.setCell ⟨w.heap.size, 0, none⟩ (.slice B n d)).setCell ⟨w.heap.size, 1, none⟩ (.slice B' n' d')) w.heap.size 25 [.slice B n d, .slice B' n' d'] := X5.out.two _ _
      have hoth : ∀ g, g ≠ w.heap.size → ((w5.setCell ⟨w.heap.size, 0, none⟩ (.slice B n d)).setCell ⟨w.heap.size, 1, none⟩ (.slice B' n' d')).heap[g]? = w5.heap[g]? := fun g hg => (Below.heap_setCell _ _ _ g hg).trans (Below.heap_setCell _ _ _ g hg)
      have hkeep : ∀ {b : Nat} {e : TypeId} {s : Nat} {v : Value} {k : Nat} {xs : List Value}, e ≠ 25 → w5.ownsRow b e s v k xs → ((w5.setCell ⟨w.heap.size, 0, none⟩ (.slice B n d)).setCell ⟨w.heap.size, 1, none⟩ (.slice B' n' d')).ownsRow b e s v k xs := fun he hx =>
        owns_keep hx fun g cs _ hc => hoth g (fun e2 => by
          subst e2
          have := X5.out
          unfold Blk at this
          rw [this] at hc
          simp at hc
          exact he hc.2.symm)
      have hsz4 : w.heap.size ≤ w3.drew.heap.size := by show w.heap.size ≤ w3.heap.size; omega
      have hb5 : Below w.heap.size w w5 := B3.out.trans (B35.out.mono (by omega))
      exact ⟨B, d, B', d', vs, vs', y1, hkeep (by decide) (owns_base O4'.out hsz4), CS4.out, hkeep (by decide) (owns_base O5.out (Nat.le_trans (show w.heap.size ≤ w3.heap.size by omega) B34.out.size)), CS5.out,
        (X2.out.below B35.out X2.out.lt).two_away _ _, (X3.out.below B35.out X3.out.lt).two_away3 _ _, hkeep (by decide) (owns_below MEM.out B35.out), below_two hb5 (Nat.le_refl _) _ _⟩)
  case rest =>
    obtain ⟨B, d, B', d', vs, vs', x1, o1, s1, o2, s2, x2, x3, mem, hb⟩ := hcut
    have hT0 : TwS w wc B n d B' n' d' S C (w.heap.size + 2) 0 K [] 0 0 := ⟨SecsTo.start _ _ o1 (Nat.le_refl _) s1, PndsTo.start _ _ o2 (Nat.le_refl _) s2, x1, x2, x3, mem, hb⟩
    have q0 := x1.cell 0
    simp only [List.getElem?_cons_zero] at q0
    have T0 := Lib.hid hT0
    clear x1 o1 s1 o2 s2 x2 x3 mem hb hT0 X1 X2 X3 MEM r0 r1 CS CP HQ
    go_wp2
    go_loopw [26] (fun i wr => ∃ k : Nat, k ≤ n ∧ i = .int .i64 k ∧ ∃ M m cm mem, m ≤ 100 * k ∧ TwS w wr B n d B' n' d' S C M m cm mem k 0) (fun i _ => n - (intOf i).toNat)
    case atStart => exact ⟨0, Nat.zero_le _, rfl, w.heap.size + 2, 0, K, [], Nat.zero_le _, T0.out⟩
    case round =>
      obtain ⟨k, hk, rfl, M, m, cm, mem, hm, hT⟩ := hrel
      have q0 := hT.box.cell 0
      simp only [List.getElem?_cons_zero] at q0
      have T := Lib.hid hT
      by_cases hkn : k < n
      · have hki : (k : Int) < (n : Int) := by omega
        obtain ⟨g, Ai, ni, ci, e, hbg, hc, hf, ha, _⟩ := hT.secs.get hkn
        have EB := Lib.hid e
        subst e
        obtain ⟨x, hx⟩ : ∃ x, x = (S.getD k (false, [])).2 := ⟨_, rfl⟩
        have hlx := ha.len
        have hsm := SM.out.sec_len k
        rw [← hx] at ha hlx hsm
        have HX := Lib.hid hx
        have hwk : IntKind.i64.wrap (k : Int) = (k : Int) := Lib.wrap_i64_small k (by omega)
        have KC := Lib.hid (keep_any w.heap.size (w.heap.size + 3) M m cm mem Ai ni ci x wr.drew (hT.on (below_drewN (Below.refl _ _) 1)).store (hT.on (below_drewN (Below.refl _ _) 1)).mem ((ha.below hT.below).below (below_drewN (Below.refl _ _) 1)) (by omega) (by omega))
        clear hT ha hx
        go_wp2
        go_region_with (go_at_call 67; refine KC.out.mono ?_; rintro e w2 ⟨A2, M', cm', rfl, hk2⟩; have T2 := Lib.hid ((T.out.on (below_drewN (Below.refl _ _) 1)).kept hk2); have s0 := T2.out.box.cell 0; simp only [List.getElem?_cons_zero] at s0; obtain ⟨g2, _, _, _, e2, _, hc2, hf2, _, _⟩ := T2.out.secs.get hkn; cases e2; have X2 := Lib.hid hk2.txt; clear hk2)
        all_goals (
          go_wp2
          go_roundw
          case rel =>
            refine ⟨k + 1, by omega, by go_num, M', m + ni, cm', mem ++ x, by omega, T2.out.put_sec rfl hkn ?_⟩
            rw [← HX.out]
            exact X2.out
          case measure => simp [intOf]; omega)
      · obtain rfl : n = k := by omega
        have q1 := hT.box.cell 1
        simp only [List.getElem?_cons_zero, List.getElem?_cons_succ] at q1
        clear hT q0
        go_wp2
        go_loopw [45] (fun i wr => ∃ k : Nat, k ≤ n' ∧ i = .int .i64 k ∧ ∃ M m cm mem, m ≤ 10000 + 100 * k ∧ TwS w wr B n d B' n' d' S C M m cm mem n k) (fun i _ => n' - (intOf i).toNat)
        case atStart => exact ⟨0, Nat.zero_le _, rfl, M, m, cm, mem, by omega, T.out⟩
        case round =>
          obtain ⟨k, hk, rfl, M, m, cm, mem, hm, hT⟩ := hrel
          have q1 := hT.box.cell 1
          simp only [List.getElem?_cons_zero, List.getElem?_cons_succ] at q1
          have T := Lib.hid hT
          by_cases hkn : k < n'
          · have hki : (k : Int) < (n' : Int) := by omega
            obtain ⟨g, Ai, ni, ci, e, hbg, hc, hf, ha, _⟩ := hT.pnds.get hkn
            have EB := Lib.hid e
            subst e
            obtain ⟨x, hx⟩ : ∃ x, x = (C.getD k (0, [])).2 := ⟨_, rfl⟩
            have hlx := ha.len
            have hsm := SM.out.pnd_len k
            rw [← hx] at ha hlx hsm
            have HX := Lib.hid hx
            have hwk : IntKind.i64.wrap (k : Int) = (k : Int) := Lib.wrap_i64_small k (by omega)
            have KC := Lib.hid (keep_any w.heap.size (w.heap.size + 3) M m cm mem Ai ni ci x wr.drew (hT.on (below_drewN (Below.refl _ _) 1)).store (hT.on (below_drewN (Below.refl _ _) 1)).mem ((ha.below hT.below).below (below_drewN (Below.refl _ _) 1)) (by omega) (by omega))
            clear hT ha hx
            go_wp2
            go_region_with (go_at_call 67; refine KC.out.mono ?_; rintro e w2 ⟨A2, M', cm', rfl, hk2⟩; have T2 := Lib.hid ((T.out.on (below_drewN (Below.refl _ _) 1)).kept hk2); have s1 := T2.out.box.cell 1; simp only [List.getElem?_cons_zero, List.getElem?_cons_succ] at s1; obtain ⟨g2, _, _, _, e2, _, hc2, hf2, _, _⟩ := T2.out.pnds.get hkn; cases e2; have X2 := Lib.hid hk2.txt; clear hk2)
            all_goals (
              go_wp2
              go_roundw
              case rel =>
                refine ⟨k + 1, by omega, by go_num, M', m + ni, cm', mem ++ x, by omega, T2.out.put_pnd rfl hkn ?_⟩
                rw [← HX.out]
                exact X2.out
              case measure => simp [intOf]; omega)
          · obtain rfl : n' = k := by omega
            have q0 := hT.box.cell 0
            simp only [List.getElem?_cons_zero] at q0
            have p0 := hT.res.cell 0
            have p1 := hT.res.cell 1
            have g0 := hT.res.free 0
            have g1 := hT.res.free 1
            simp only [List.getElem?_cons_zero, List.getElem?_cons_succ] at p0 p1
            have OD := Lib.hid (show OwnDsk wr w.heap.size B n d B' n' d' S C from ⟨hT.secs.done (Nat.le_refl _) H.out.secs.len H.out.secs.byte, hT.pnds.done (Nat.le_refl _) H.out.pnds.len H.out.pnds.byte⟩)
            have R2 := Lib.hid hT.res
            have BB := Lib.hid hT.below
            clear hT
            go_wp2
            have z := R2.out.two (.slice B n d) (.slice B' n' d')
            have z0 := z.cell 0
            have z1 := z.cell 1
            simp only [List.getElem?_cons_zero, List.getElem?_cons_succ] at z0 z1
            have O3 := OD.out.two R2.out (.slice B n d) (.slice B' n' d')
            have B3 := below_two BB.out (show w.heap.size ≤ w.heap.size + 1 by omega) (.slice B n d) (.slice B' n' d')
            refine bodyPost_ret (v := diskV B n d B' n' d') ?_ rfl ⟨B, d, B', d', rfl, O3, B3⟩
            clear q0 q1 p0 p1 g0 g1
            simp [results, Try.f35, go_sem, z0, z1]

end Go.Proofs.Ytkbeeknnfndjgaa
