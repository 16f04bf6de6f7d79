/- Layer 15, the document's: Read where the text is sealed; Read at all arguments. No statement is proved here. -/
import Derived.Test.YtdgfofemogmmkaaFrR4
namespace Go.Proofs.Ytdgfofemogmmkaa
open Go.RowKit
set_option linter.unusedVariables false
set_option maxRecDepth 100000

set_option maxHeartbeats 12800000 in
theorem rreadF_yes (A : Option Addr) (m c : Nat) (t : List Int) (w : World) (h : Arg w .u8 A (m + 20) c t) (hby : ∀ z ∈ t, isByte z) (hm : m ≤ 64) (hE : opE t = 0) :
    Calls Try.prog 15 #[.slice A (m + 20) c] w (FrdOut w (if mayF (frV (opB t)) then frV (opB t) else zFr) (if mayF (frV (opB t)) then 0 else 150)) := by
  obtain ⟨ib, hib, hbz, hb1, hb2⟩ := info_parts byte_info
  have hml : (1000000 : Nat) ≤ maxLen := by decide
  obtain ⟨x, hbel⟩ := box_frm w 0 0 0 0 none 0 0
  obtain ⟨w1, hw1⟩ : ∃ x : World, x = (w.alloc (.cells #[.int .u32 0, .int .u32 0, .int .u32 0, .int .u32 0, .slice none 0 0] 25)) := ⟨_, rfl⟩
  rw [← hw1] at x hbel
  obtain ⟨d0, d1, d2, d3, d4⟩ := x.frm
  have f0 := x.free 0
  have f1 := x.free 1
  have f2 := x.free 2
  have f3 := x.free 3
  have f4 := x.free 4
  have X := Lib.hid x
  have B := Lib.hid hbel
  have hni : ¬ ((m : Int) + 20) < 20 := by omega
  have hni2 : ¬ (84 : Int) < (m : Int) + 20 := by omega
  have OP := Lib.hid (ropen_gen A (m + 20) c t w1 (h.below hbel) hby)
  rw [hE] at OP
  have hbl := opB_length hE
  have hlen := h.len
  obtain ⟨b, hb0⟩ : ∃ b, b = opB t := ⟨_, rfl⟩
  have hbb : ∀ z ∈ b, isByte z := by rw [hb0]; exact opB_byte hby
  rw [← hb0] at OP hbl ⊢
  have LB := Lib.hid (show b.length = m + 16 by omega)
  have HBB := Lib.hid hbb
  have HM := Lib.hid hm
  obtain ⟨K, hK⟩ : ∃ K : Ending → World → Prop, K = FrdOut w (if mayF (frV b) then frV b else zFr) (if mayF (frV b) then 0 else 150) := ⟨_, rfl⟩
  have hdl : (b.drop 16).length = m := by rw [List.length_drop, LB.out]; omega
  have hmy : mayF (frV b) ↔ mayN (val (b.take 4)) (val ((b.drop 8).take 4)) m := by
    rw [show frV b = (val (b.take 4), val ((b.drop 4).take 4), val ((b.drop 8).take 4), val ((b.drop 12).take 4), b.drop 16) from rfl, mayN_iff, hdl]
  have HK1 := Lib.hid (show mayN (val (b.take 4)) (val ((b.drop 8).take 4)) m → ∀ e w', FrdOut w (frV b) 0 e w' → K e w' from fun hx e w' ho => by rw [hK, if_pos (hmy.2 hx), if_pos (hmy.2 hx)]; exact ho)
  have HK2 := Lib.hid (show ¬ mayN (val (b.take 4)) (val ((b.drop 8).take 4)) m → ∀ e w', FrdOut w zFr 150 e w' → K e w' from fun hx e w' ho => by rw [hK, if_neg (fun k => hx (hmy.1 k)), if_neg (fun k => hx (hmy.1 k))]; exact ho)
  rw [← hK]
  clear x hbel hE h hby hm hbl hlen hb0 hbb hK hmy
  go_enter Try.func15, Try.ntmps15
  go_upto_region 1 with fail
  rw [← hw1]
  clear hw1
  go_wp2_with fail
  refine OP.out.mono ?_
  intro e w5 hout
  obtain ⟨A5, k5, rfl, hown, hb⟩ := hout.len rfl LB.out
  have B5 := Lib.hid (B.out.trans (hb.mono B.out.size))
  have X5 := Lib.hid (X.out.below hb X.out.lt)
  have AR := Lib.hid (Arg.own hown)
  obtain ⟨g, rfl, _⟩ := owns_int_at hown (show 0 < m + 16 by omega)
  have hcap := AR.out.cap
  have hc4 : (4 : Int) ≤ (k5 : Int) := by omega
  have hc8 : (8 : Int) ≤ (k5 : Int) := by omega
  have hc12 : (12 : Int) ≤ (k5 : Int) := by omega
  have hc16 : (16 : Int) ≤ (k5 : Int) := by omega
  have hne4 : ¬ k5 = 4 := by omega
  have hne8 : ¬ k5 = 8 := by omega
  have hne12 : ¬ k5 = 12 := by omega
  have hl16 : (16 : Int) ≤ ((m : Int) + 16) := by omega
  have SQ := Lib.hid (fun wx (hx : Below w5.heap.size w5 wx) => (AR.out.below hx).seq)
  obtain ⟨V1, hV1⟩ : ∃ x, x = val (b.take 4) := ⟨_, rfl⟩
  have N1 := Lib.hid (fun wx (hx : Below w5.heap.size w5 wx) => (show Calls Try.prog 29 #[.slice (some ⟨g, 0, none⟩) 4 k5] wx (fun e w' => e = .returned (.int .u64 V1) ∧ wx = w') from by
    rw [hV1]
    exact number_any (some ⟨g, 0, none⟩) 4 k5 (b.take 4) wx _ (by have h3 := (SQ.out _ hx).take 4; unfold ints at h3 ⊢; rwa [← List.map_take] at h3) (by rw [List.length_take, LB.out]; omega) (by decide) (fun z hz => HBB.out z (List.mem_of_mem_take hz))))
  have e1 : IntKind.u32.wrap V1 = V1 := by
    have := (dig_take HBB.out (by rw [LB.out]; omega)).2
    rw [hV1]
    unfold isV at this
    rw [IntKind.wrap_u32]
    omega
  obtain ⟨V2, hV2⟩ : ∃ x, x = val ((b.drop 4).take 4) := ⟨_, rfl⟩
  have N2 := Lib.hid (fun wx (hx : Below w5.heap.size w5 wx) => (show Calls Try.prog 29 #[.slice (some ⟨g, 4, none⟩) 4 (k5 - 4)] wx (fun e w' => e = .returned (.int .u64 V2) ∧ wx = w') from by
    rw [hV2]
    exact number_any (some ⟨g, 4, none⟩) 4 (k5 - 4) ((b.drop 4).take 4) wx _ (by have h3 := ((SQ.out _ hx).drop 4).take 4; unfold ints at h3 ⊢; rwa [← List.map_drop, ← List.map_take] at h3) (by rw [List.length_take, List.length_drop, LB.out]; omega) (by decide) (fun z hz => HBB.out z (List.mem_of_mem_drop (List.mem_of_mem_take hz)))))
  have e2 : IntKind.u32.wrap V2 = V2 := by
    have := (dig_take (fun z hz => HBB.out z (List.mem_of_mem_drop (i := 4) hz)) (by rw [List.length_drop, LB.out]; omega)).2
    rw [hV2]
    unfold isV at this
    rw [IntKind.wrap_u32]
    omega
  obtain ⟨V3, hV3⟩ : ∃ x, x = val ((b.drop 8).take 4) := ⟨_, rfl⟩
  have N3 := Lib.hid (fun wx (hx : Below w5.heap.size w5 wx) => (show Calls Try.prog 29 #[.slice (some ⟨g, 8, none⟩) 4 (k5 - 8)] wx (fun e w' => e = .returned (.int .u64 V3) ∧ wx = w') from by
    rw [hV3]
    exact number_any (some ⟨g, 8, none⟩) 4 (k5 - 8) ((b.drop 8).take 4) wx _ (by have h3 := ((SQ.out _ hx).drop 8).take 4; unfold ints at h3 ⊢; rwa [← List.map_drop, ← List.map_take] at h3) (by rw [List.length_take, List.length_drop, LB.out]; omega) (by decide) (fun z hz => HBB.out z (List.mem_of_mem_drop (List.mem_of_mem_take hz)))))
  have e3 : IntKind.u32.wrap V3 = V3 := by
    have := (dig_take (fun z hz => HBB.out z (List.mem_of_mem_drop (i := 8) hz)) (by rw [List.length_drop, LB.out]; omega)).2
    rw [hV3]
    unfold isV at this
    rw [IntKind.wrap_u32]
    omega
  obtain ⟨V4, hV4⟩ : ∃ x, x = val ((b.drop 12).take 4) := ⟨_, rfl⟩
  have N4 := Lib.hid (fun wx (hx : Below w5.heap.size w5 wx) => (show Calls Try.prog 29 #[.slice (some ⟨g, 12, none⟩) 4 (k5 - 12)] wx (fun e w' => e = .returned (.int .u64 V4) ∧ wx = w') from by
    rw [hV4]
    exact number_any (some ⟨g, 12, none⟩) 4 (k5 - 12) ((b.drop 12).take 4) wx _ (by have h3 := ((SQ.out _ hx).drop 12).take 4; unfold ints at h3 ⊢; rwa [← List.map_drop, ← List.map_take] at h3) (by rw [List.length_take, List.length_drop, LB.out]; omega) (by decide) (fun z hz => HBB.out z (List.mem_of_mem_drop (List.mem_of_mem_take hz)))))
  have e4 : IntKind.u32.wrap V4 = V4 := by
    have := (dig_take (fun z hz => HBB.out z (List.mem_of_mem_drop (i := 12) hz)) (by rw [List.length_drop, LB.out]; omega)).2
    rw [hV4]
    unfold isV at this
    rw [IntKind.wrap_u32]
    omega
  obtain ⟨R, hR⟩ : ∃ x, x = b.drop 16 := ⟨_, rfl⟩
  have RL := Lib.hid (show R.length = m by rw [hR]; exact hdl)
  have hfv : frV b = (V1, V2, V3, V4, R) := by rw [hV1, hV2, hV3, hV4, hR]; rfl
  rw [hfv, ← hV1, ← hV3] at HK1
  rw [← hV1, ← hV3] at HK2
  have SR0 := Lib.hid (show ∀ wx, Below w5.heap.size w5 wx → Seq wx wx.heap.size (some ⟨g, 0 + 16, none⟩) (ints .u8 R) from fun wx hx => by
    have h3 := (SQ.out _ hx).drop 16
    rw [hR]
    unfold ints at h3 ⊢
    rwa [← List.map_drop] at h3)
  clear hout hown hb OP B X d0 d1 d2 d3 d4 f0 f1 f2 f3 f4 hV1 hV2 hV3 hV4 hR hdl hfv AR SQ hni hni2
  go_upto_region 8 with fail
  obtain ⟨AD, HAD0, SR0'⟩ : ∃ AD : Option Addr, (((k5 = 16) = True ∧ AD = some ⟨g, 0, none⟩) ∨ (¬ k5 = 16 ∧ AD = some ⟨g, 16, none⟩)) ∧ ∀ wx, Below w5.heap.size w5 wx → Seq wx wx.heap.size AD (ints .u8 R) := by
    by_cases h16 : k5 = 16
    · have hm0 : m = 0 := by omega
      refine ⟨some ⟨g, 0, none⟩, .inl ⟨eq_true h16, rfl⟩, fun wx _ => ?_⟩
      rw [List.eq_nil_of_length_eq_zero (RL.out.trans hm0)]
      exact Seq.empty
    · exact ⟨some ⟨g, 16, none⟩, .inr ⟨h16, rfl⟩, SR0.out⟩
  have HAD := Lib.hid HAD0
  have SR := Lib.hid SR0'
  clear HAD0 SR0' SR0 hcap
  refine wp_region_upto2 rfl 22 (fun a0 f ax wx => ∃ x0 x1 x2 x3 x4 x5 x6 x7 x8 x9 x10 x11 x12 x13 x14 x15 x16 x17 x18 x19 x20 x21 : Value, ax = ((((((((((((((((((((((a0.put (some 24) x0).put (some 25) x1).put (some 26) x2).put (some 27) x3).put (some 28) x4).put (some 29) x5).put (some 30) x6).put (some 31) x7).put (some 32) x8).put (some 33) x9).put (some 34) x10).put (some 35) x11).put (some 36) x12).put (some 37) x13).put (some 38) x14).put (some 39) x15).put (some 40) x16).put (some 41) x17).put (some 42) x18).put (some 43) x19).put (some 44) x20).put (some 6) x21) ∧ Below w5.heap.size w5 wx ∧ (∀ jq, f jq = true → (([(Cl.is (.slice (some ⟨g, 0, none⟩) (m + 16) k5)), (Cl.is (.slice (some ⟨g, 0, none⟩) 4 k5)), (Cl.is (.int .u64 V1)), (Cl.is (.int .u32 V1)), (Cl.is (.slice (some ⟨g, 0, none⟩) (m + 16) k5)), (Cl.is (.slice (some ⟨g, 4, none⟩) 4 (k5 - 4))), (Cl.is (.int .u64 V2)), (Cl.is (.int .u32 V2)), (Cl.is (.slice (some ⟨g, 0, none⟩) (m + 16) k5)), (Cl.is (.slice (some ⟨g, 8, none⟩) 4 (k5 - 8))), (Cl.is (.int .u64 V3)), (Cl.is (.int .u32 V3)), (Cl.is (.slice (some ⟨g, 0, none⟩) (m + 16) k5)), (Cl.is (.slice (some ⟨g, 12, none⟩) 4 (k5 - 12))), (Cl.is (.int .u64 V4)), (Cl.is (.int .u32 V4)), (clN (fun v w => ∃ g6 : Nat, v = .slice (some ⟨g6, 0, none⟩) 0 0 ∧ w.ownsRow w5.heap.size 5 1 (.slice (some ⟨g6, 0, none⟩) 0 0) 0 []) (fun hb h => by obtain ⟨q, e, o⟩ := h; exact ⟨q, e, owns_below o hb⟩)), (Cl.is (.slice (some ⟨g, 0, none⟩) (m + 16) k5)), (Cl.is (.slice AD m (k5 - 16))), (clN (fun v w => ∃ (A9 : Option Addr) (k9 : Nat), v = .slice A9 m k9 ∧ w.ownsRow w5.heap.size 5 1 (.slice A9 m k9) m (ints .u8 R)) (fun hb h => by obtain ⟨q, r, e, o⟩ := h; exact ⟨q, r, e, owns_below o hb⟩)), (clN (fun v w => ∃ (B9 : Option Addr) (j9 : Nat), v = frmV V1 V2 V3 V4 B9 m j9 ∧ w.ownsRow w5.heap.size 5 1 (.slice B9 m j9) m (ints .u8 R)) (fun hb h => by obtain ⟨q, r, e, o⟩ := h; exact ⟨q, r, e, owns_below o hb⟩)), (clN (fun v w => ∃ h9 : Nat, v = .pointer (some ⟨h9, 0, none⟩) ∧ (Blk w h9 25 (frmL 0 0 0 0 none 0 0) ∧ w5.heap.size ≤ h9)) (fun hb h => by obtain ⟨q, e, o, l⟩ := h; exact ⟨q, e, o.below hb o.lt, l⟩))] : List (Cl stN)).getD jq Cl.any).p ([x0, x1, x2, x3, x4, x5, x6, x7, x8, x9, x10, x11, x12, x13, x14, x15, x16, x17, x18, x19, x20, x21].getD jq undef) wx)) (by decide) (by kernel_rfl) ?_ ?_ ?_
  · exact ⟨undef, undef, undef, undef, undef, undef, undef, undef, undef, undef, undef, undef, undef, undef, undef, undef, undef, undef, undef, undef, undef, undef, (by simp only [Act.put, List.setIfInBounds_toArray, List.set_cons_zero, List.set_cons_succ]), (Below.refl _ _).drew, (fun j h => (by cases h))⟩
  · refine ⟨⟨⟨⟨⟨⟨⟨⟨⟨⟨⟨⟨⟨⟨⟨⟨⟨⟨⟨⟨⟨⟨trivial, ?_⟩, ?_⟩, ?_⟩, ?_⟩, ?_⟩, ?_⟩, ?_⟩, ?_⟩, ?_⟩, ?_⟩, ?_⟩, ?_⟩, ?_⟩, ?_⟩, ?_⟩, ?_⟩, ?_⟩, ?_⟩, ?_⟩, ?_⟩, ?_⟩, ?_⟩
    · intro f ax wx hJ hf hd K' hK
      obtain ⟨x0, x1, x2, x3, x4, x5, x6, x7, x8, x9, x10, x11, x12, x13, x14, x15, x16, x17, x18, x19, x20, x21, hax, hB, hp⟩ := hJ
      simp only [Act.put, List.setIfInBounds_toArray, List.set_cons_zero, List.set_cons_succ] at hax
      subst hax
      have HK := Lib.hid hK
      have HP := Lib.hid hp
      clear hK hp hf hd
      go_simp
      exact HK.out _ _ ⟨.slice (some ⟨g, 0, none⟩) (m + 16) k5, x1, x2, x3, x4, x5, x6, x7, x8, x9, x10, x11, x12, x13, x14, x15, x16, x17, x18, x19, x20, x21, (by simp only [Act.put, List.setIfInBounds_toArray, List.set_cons_zero, List.set_cons_succ]), hB, stepP [x0, x1, x2, x3, x4, x5, x6, x7, x8, x9, x10, x11, x12, x13, x14, x15, x16, x17, x18, x19, x20, x21] 0 (.slice (some ⟨g, 0, none⟩) (m + 16) k5) HP.out (by simp) rfl⟩
    · intro f ax wx hJ hf hd K' hK
      obtain ⟨x0, x1, x2, x3, x4, x5, x6, x7, x8, x9, x10, x11, x12, x13, x14, x15, x16, x17, x18, x19, x20, x21, hax, hB, hp⟩ := hJ
      simp only [Act.put, List.setIfInBounds_toArray, List.set_cons_zero, List.set_cons_succ] at hax
      subst hax
      have HK := Lib.hid hK
      have e0 : x0 = .slice (some ⟨g, 0, none⟩) (m + 16) k5 := hp 0 (deps_at (k := 0) rfl rfl rfl hd)
      subst e0
      have HP := Lib.hid hp
      clear hK hp hf hd
      go_simp
      exact HK.out _ _ ⟨.slice (some ⟨g, 0, none⟩) (m + 16) k5, .slice (some ⟨g, 0, none⟩) 4 k5, x2, x3, x4, x5, x6, x7, x8, x9, x10, x11, x12, x13, x14, x15, x16, x17, x18, x19, x20, x21, (by simp only [Act.put, List.setIfInBounds_toArray, List.set_cons_zero, List.set_cons_succ]), hB, stepP [.slice (some ⟨g, 0, none⟩) (m + 16) k5, x1, x2, x3, x4, x5, x6, x7, x8, x9, x10, x11, x12, x13, x14, x15, x16, x17, x18, x19, x20, x21] 1 (.slice (some ⟨g, 0, none⟩) 4 k5) HP.out (by simp) rfl⟩
    · intro f ax wx hJ hf hd K' hK
      obtain ⟨x0, x1, x2, x3, x4, x5, x6, x7, x8, x9, x10, x11, x12, x13, x14, x15, x16, x17, x18, x19, x20, x21, hax, hB, hp⟩ := hJ
      simp only [Act.put, List.setIfInBounds_toArray, List.set_cons_zero, List.set_cons_succ] at hax
      subst hax
      have HK := Lib.hid hK
      have e1 : x1 = .slice (some ⟨g, 0, none⟩) 4 k5 := hp 1 (deps_at (k := 0) rfl rfl rfl hd)
      subst e1
      have HP := Lib.hid hp
      clear hK hp hf hd
      go_simp
      go_wp2_with (go_at_call 29; refine (N1.out _ hB).mono ?_; rintro e w9 ⟨rfl, rfl⟩)
      exact HK.out _ _ ⟨x0, .slice (some ⟨g, 0, none⟩) 4 k5, .int .u64 V1, x3, x4, x5, x6, x7, x8, x9, x10, x11, x12, x13, x14, x15, x16, x17, x18, x19, x20, x21, (by simp only [Act.put, List.setIfInBounds_toArray, List.set_cons_zero, List.set_cons_succ]), hB, stepP [x0, .slice (some ⟨g, 0, none⟩) 4 k5, x2, x3, x4, x5, x6, x7, x8, x9, x10, x11, x12, x13, x14, x15, x16, x17, x18, x19, x20, x21] 2 (.int .u64 V1) HP.out (by simp) rfl⟩
    · intro f ax wx hJ hf hd K' hK
      obtain ⟨x0, x1, x2, x3, x4, x5, x6, x7, x8, x9, x10, x11, x12, x13, x14, x15, x16, x17, x18, x19, x20, x21, hax, hB, hp⟩ := hJ
      simp only [Act.put, List.setIfInBounds_toArray, List.set_cons_zero, List.set_cons_succ] at hax
      subst hax
      have HK := Lib.hid hK
      have e2 : x2 = .int .u64 V1 := hp 2 (deps_at (k := 0) rfl rfl rfl hd)
      subst e2
      have HP := Lib.hid hp
      clear hK hp hf hd
      go_simp
      exact HK.out _ _ ⟨x0, x1, .int .u64 V1, .int .u32 V1, x4, x5, x6, x7, x8, x9, x10, x11, x12, x13, x14, x15, x16, x17, x18, x19, x20, x21, (by simp only [Act.put, List.setIfInBounds_toArray, List.set_cons_zero, List.set_cons_succ]), hB, stepP [x0, x1, .int .u64 V1, x3, x4, x5, x6, x7, x8, x9, x10, x11, x12, x13, x14, x15, x16, x17, x18, x19, x20, x21] 3 (.int .u32 V1) HP.out (by simp) rfl⟩
    · intro f ax wx hJ hf hd K' hK
      obtain ⟨x0, x1, x2, x3, x4, x5, x6, x7, x8, x9, x10, x11, x12, x13, x14, x15, x16, x17, x18, x19, x20, x21, hax, hB, hp⟩ := hJ
      simp only [Act.put, List.setIfInBounds_toArray, List.set_cons_zero, List.set_cons_succ] at hax
      subst hax
      have HK := Lib.hid hK
      have HP := Lib.hid hp
      clear hK hp hf hd
      go_simp
      exact HK.out _ _ ⟨x0, x1, x2, x3, .slice (some ⟨g, 0, none⟩) (m + 16) k5, x5, x6, x7, x8, x9, x10, x11, x12, x13, x14, x15, x16, x17, x18, x19, x20, x21, (by simp only [Act.put, List.setIfInBounds_toArray, List.set_cons_zero, List.set_cons_succ]), hB, stepP [x0, x1, x2, x3, x4, x5, x6, x7, x8, x9, x10, x11, x12, x13, x14, x15, x16, x17, x18, x19, x20, x21] 4 (.slice (some ⟨g, 0, none⟩) (m + 16) k5) HP.out (by simp) rfl⟩
    · intro f ax wx hJ hf hd K' hK
      obtain ⟨x0, x1, x2, x3, x4, x5, x6, x7, x8, x9, x10, x11, x12, x13, x14, x15, x16, x17, x18, x19, x20, x21, hax, hB, hp⟩ := hJ
      simp only [Act.put, List.setIfInBounds_toArray, List.set_cons_zero, List.set_cons_succ] at hax
      subst hax
      have HK := Lib.hid hK
      have e4 : x4 = .slice (some ⟨g, 0, none⟩) (m + 16) k5 := hp 4 (deps_at (k := 0) rfl rfl rfl hd)
      subst e4
      have HP := Lib.hid hp
      clear hK hp hf hd
      go_simp
      exact HK.out _ _ ⟨x0, x1, x2, x3, .slice (some ⟨g, 0, none⟩) (m + 16) k5, .slice (some ⟨g, 4, none⟩) 4 (k5 - 4), x6, x7, x8, x9, x10, x11, x12, x13, x14, x15, x16, x17, x18, x19, x20, x21, (by simp only [Act.put, List.setIfInBounds_toArray, List.set_cons_zero, List.set_cons_succ]), hB, stepP [x0, x1, x2, x3, .slice (some ⟨g, 0, none⟩) (m + 16) k5, x5, x6, x7, x8, x9, x10, x11, x12, x13, x14, x15, x16, x17, x18, x19, x20, x21] 5 (.slice (some ⟨g, 4, none⟩) 4 (k5 - 4)) HP.out (by simp) rfl⟩
    · intro f ax wx hJ hf hd K' hK
      obtain ⟨x0, x1, x2, x3, x4, x5, x6, x7, x8, x9, x10, x11, x12, x13, x14, x15, x16, x17, x18, x19, x20, x21, hax, hB, hp⟩ := hJ
      simp only [Act.put, List.setIfInBounds_toArray, List.set_cons_zero, List.set_cons_succ] at hax
      subst hax
      have HK := Lib.hid hK
      have e5 : x5 = .slice (some ⟨g, 4, none⟩) 4 (k5 - 4) := hp 5 (deps_at (k := 0) rfl rfl rfl hd)
      subst e5
      have HP := Lib.hid hp
      clear hK hp hf hd
      go_simp
      go_wp2_with (go_at_call 29; refine (N2.out _ hB).mono ?_; rintro e w9 ⟨rfl, rfl⟩)
      exact HK.out _ _ ⟨x0, x1, x2, x3, x4, .slice (some ⟨g, 4, none⟩) 4 (k5 - 4), .int .u64 V2, x7, x8, x9, x10, x11, x12, x13, x14, x15, x16, x17, x18, x19, x20, x21, (by simp only [Act.put, List.setIfInBounds_toArray, List.set_cons_zero, List.set_cons_succ]), hB, stepP [x0, x1, x2, x3, x4, .slice (some ⟨g, 4, none⟩) 4 (k5 - 4), x6, x7, x8, x9, x10, x11, x12, x13, x14, x15, x16, x17, x18, x19, x20, x21] 6 (.int .u64 V2) HP.out (by simp) rfl⟩
    · intro f ax wx hJ hf hd K' hK
      obtain ⟨x0, x1, x2, x3, x4, x5, x6, x7, x8, x9, x10, x11, x12, x13, x14, x15, x16, x17, x18, x19, x20, x21, hax, hB, hp⟩ := hJ
      simp only [Act.put, List.setIfInBounds_toArray, List.set_cons_zero, List.set_cons_succ] at hax
      subst hax
      have HK := Lib.hid hK
      have e6 : x6 = .int .u64 V2 := hp 6 (deps_at (k := 0) rfl rfl rfl hd)
      subst e6
      have HP := Lib.hid hp
      clear hK hp hf hd
      go_simp
      exact HK.out _ _ ⟨x0, x1, x2, x3, x4, x5, .int .u64 V2, .int .u32 V2, x8, x9, x10, x11, x12, x13, x14, x15, x16, x17, x18, x19, x20, x21, (by simp only [Act.put, List.setIfInBounds_toArray, List.set_cons_zero, List.set_cons_succ]), hB, stepP [x0, x1, x2, x3, x4, x5, .int .u64 V2, x7, x8, x9, x10, x11, x12, x13, x14, x15, x16, x17, x18, x19, x20, x21] 7 (.int .u32 V2) HP.out (by simp) rfl⟩
    · intro f ax wx hJ hf hd K' hK
      obtain ⟨x0, x1, x2, x3, x4, x5, x6, x7, x8, x9, x10, x11, x12, x13, x14, x15, x16, x17, x18, x19, x20, x21, hax, hB, hp⟩ := hJ
      simp only [Act.put, List.setIfInBounds_toArray, List.set_cons_zero, List.set_cons_succ] at hax
      subst hax
      have HK := Lib.hid hK
      have HP := Lib.hid hp
      clear hK hp hf hd
      go_simp
      exact HK.out _ _ ⟨x0, x1, x2, x3, x4, x5, x6, x7, .slice (some ⟨g, 0, none⟩) (m + 16) k5, x9, x10, x11, x12, x13, x14, x15, x16, x17, x18, x19, x20, x21, (by simp only [Act.put, List.setIfInBounds_toArray, List.set_cons_zero, List.set_cons_succ]), hB, stepP [x0, x1, x2, x3, x4, x5, x6, x7, x8, x9, x10, x11, x12, x13, x14, x15, x16, x17, x18, x19, x20, x21] 8 (.slice (some ⟨g, 0, none⟩) (m + 16) k5) HP.out (by simp) rfl⟩
    · intro f ax wx hJ hf hd K' hK
      obtain ⟨x0, x1, x2, x3, x4, x5, x6, x7, x8, x9, x10, x11, x12, x13, x14, x15, x16, x17, x18, x19, x20, x21, hax, hB, hp⟩ := hJ
      simp only [Act.put, List.setIfInBounds_toArray, List.set_cons_zero, List.set_cons_succ] at hax
      subst hax
      have HK := Lib.hid hK
      have e8 : x8 = .slice (some ⟨g, 0, none⟩) (m + 16) k5 := hp 8 (deps_at (k := 0) rfl rfl rfl hd)
      subst e8
      have HP := Lib.hid hp
      clear hK hp hf hd
      go_simp
      exact HK.out _ _ ⟨x0, x1, x2, x3, x4, x5, x6, x7, .slice (some ⟨g, 0, none⟩) (m + 16) k5, .slice (some ⟨g, 8, none⟩) 4 (k5 - 8), x10, x11, x12, x13, x14, x15, x16, x17, x18, x19, x20, x21, (by simp only [Act.put, List.setIfInBounds_toArray, List.set_cons_zero, List.set_cons_succ]), hB, stepP [x0, x1, x2, x3, x4, x5, x6, x7, .slice (some ⟨g, 0, none⟩) (m + 16) k5, x9, x10, x11, x12, x13, x14, x15, x16, x17, x18, x19, x20, x21] 9 (.slice (some ⟨g, 8, none⟩) 4 (k5 - 8)) HP.out (by simp) rfl⟩
    · intro f ax wx hJ hf hd K' hK
      obtain ⟨x0, x1, x2, x3, x4, x5, x6, x7, x8, x9, x10, x11, x12, x13, x14, x15, x16, x17, x18, x19, x20, x21, hax, hB, hp⟩ := hJ
      simp only [Act.put, List.setIfInBounds_toArray, List.set_cons_zero, List.set_cons_succ] at hax
      subst hax
      have HK := Lib.hid hK
      have e9 : x9 = .slice (some ⟨g, 8, none⟩) 4 (k5 - 8) := hp 9 (deps_at (k := 0) rfl rfl rfl hd)
      subst e9
      have HP := Lib.hid hp
      clear hK hp hf hd
      go_simp
      go_wp2_with (go_at_call 29; refine (N3.out _ hB).mono ?_; rintro e w9 ⟨rfl, rfl⟩)
      exact HK.out _ _ ⟨x0, x1, x2, x3, x4, x5, x6, x7, x8, .slice (some ⟨g, 8, none⟩) 4 (k5 - 8), .int .u64 V3, x11, x12, x13, x14, x15, x16, x17, x18, x19, x20, x21, (by simp only [Act.put, List.setIfInBounds_toArray, List.set_cons_zero, List.set_cons_succ]), hB, stepP [x0, x1, x2, x3, x4, x5, x6, x7, x8, .slice (some ⟨g, 8, none⟩) 4 (k5 - 8), x10, x11, x12, x13, x14, x15, x16, x17, x18, x19, x20, x21] 10 (.int .u64 V3) HP.out (by simp) rfl⟩
    · intro f ax wx hJ hf hd K' hK
      obtain ⟨x0, x1, x2, x3, x4, x5, x6, x7, x8, x9, x10, x11, x12, x13, x14, x15, x16, x17, x18, x19, x20, x21, hax, hB, hp⟩ := hJ
      simp only [Act.put, List.setIfInBounds_toArray, List.set_cons_zero, List.set_cons_succ] at hax
      subst hax
      have HK := Lib.hid hK
      have e10 : x10 = .int .u64 V3 := hp 10 (deps_at (k := 0) rfl rfl rfl hd)
      subst e10
      have HP := Lib.hid hp
      clear hK hp hf hd
      go_simp
      exact HK.out _ _ ⟨x0, x1, x2, x3, x4, x5, x6, x7, x8, x9, .int .u64 V3, .int .u32 V3, x12, x13, x14, x15, x16, x17, x18, x19, x20, x21, (by simp only [Act.put, List.setIfInBounds_toArray, List.set_cons_zero, List.set_cons_succ]), hB, stepP [x0, x1, x2, x3, x4, x5, x6, x7, x8, x9, .int .u64 V3, x11, x12, x13, x14, x15, x16, x17, x18, x19, x20, x21] 11 (.int .u32 V3) HP.out (by simp) rfl⟩
    · intro f ax wx hJ hf hd K' hK
      obtain ⟨x0, x1, x2, x3, x4, x5, x6, x7, x8, x9, x10, x11, x12, x13, x14, x15, x16, x17, x18, x19, x20, x21, hax, hB, hp⟩ := hJ
      simp only [Act.put, List.setIfInBounds_toArray, List.set_cons_zero, List.set_cons_succ] at hax
      subst hax
      have HK := Lib.hid hK
      have HP := Lib.hid hp
      clear hK hp hf hd
      go_simp
      exact HK.out _ _ ⟨x0, x1, x2, x3, x4, x5, x6, x7, x8, x9, x10, x11, .slice (some ⟨g, 0, none⟩) (m + 16) k5, x13, x14, x15, x16, x17, x18, x19, x20, x21, (by simp only [Act.put, List.setIfInBounds_toArray, List.set_cons_zero, List.set_cons_succ]), hB, stepP [x0, x1, x2, x3, x4, x5, x6, x7, x8, x9, x10, x11, x12, x13, x14, x15, x16, x17, x18, x19, x20, x21] 12 (.slice (some ⟨g, 0, none⟩) (m + 16) k5) HP.out (by simp) rfl⟩
    · intro f ax wx hJ hf hd K' hK
      obtain ⟨x0, x1, x2, x3, x4, x5, x6, x7, x8, x9, x10, x11, x12, x13, x14, x15, x16, x17, x18, x19, x20, x21, hax, hB, hp⟩ := hJ
      simp only [Act.put, List.setIfInBounds_toArray, List.set_cons_zero, List.set_cons_succ] at hax
      subst hax
      have HK := Lib.hid hK
      have e12 : x12 = .slice (some ⟨g, 0, none⟩) (m + 16) k5 := hp 12 (deps_at (k := 0) rfl rfl rfl hd)
      subst e12
      have HP := Lib.hid hp
      clear hK hp hf hd
      go_simp
      exact HK.out _ _ ⟨x0, x1, x2, x3, x4, x5, x6, x7, x8, x9, x10, x11, .slice (some ⟨g, 0, none⟩) (m + 16) k5, .slice (some ⟨g, 12, none⟩) 4 (k5 - 12), x14, x15, x16, x17, x18, x19, x20, x21, (by simp only [Act.put, List.setIfInBounds_toArray, List.set_cons_zero, List.set_cons_succ]), hB, stepP [x0, x1, x2, x3, x4, x5, x6, x7, x8, x9, x10, x11, .slice (some ⟨g, 0, none⟩) (m + 16) k5, x13, x14, x15, x16, x17, x18, x19, x20, x21] 13 (.slice (some ⟨g, 12, none⟩) 4 (k5 - 12)) HP.out (by simp) rfl⟩
    · intro f ax wx hJ hf hd K' hK
      obtain ⟨x0, x1, x2, x3, x4, x5, x6, x7, x8, x9, x10, x11, x12, x13, x14, x15, x16, x17, x18, x19, x20, x21, hax, hB, hp⟩ := hJ
      simp only [Act.put, List.setIfInBounds_toArray, List.set_cons_zero, List.set_cons_succ] at hax
      subst hax
      have HK := Lib.hid hK
      have e13 : x13 = .slice (some ⟨g, 12, none⟩) 4 (k5 - 12) := hp 13 (deps_at (k := 0) rfl rfl rfl hd)
      subst e13
      have HP := Lib.hid hp
      clear hK hp hf hd
      go_simp
      go_wp2_with (go_at_call 29; refine (N4.out _ hB).mono ?_; rintro e w9 ⟨rfl, rfl⟩)
      exact HK.out _ _ ⟨x0, x1, x2, x3, x4, x5, x6, x7, x8, x9, x10, x11, x12, .slice (some ⟨g, 12, none⟩) 4 (k5 - 12), .int .u64 V4, x15, x16, x17, x18, x19, x20, x21, (by simp only [Act.put, List.setIfInBounds_toArray, List.set_cons_zero, List.set_cons_succ]), hB, stepP [x0, x1, x2, x3, x4, x5, x6, x7, x8, x9, x10, x11, x12, .slice (some ⟨g, 12, none⟩) 4 (k5 - 12), x14, x15, x16, x17, x18, x19, x20, x21] 14 (.int .u64 V4) HP.out (by simp) rfl⟩
    · intro f ax wx hJ hf hd K' hK
      obtain ⟨x0, x1, x2, x3, x4, x5, x6, x7, x8, x9, x10, x11, x12, x13, x14, x15, x16, x17, x18, x19, x20, x21, hax, hB, hp⟩ := hJ
      simp only [Act.put, List.setIfInBounds_toArray, List.set_cons_zero, List.set_cons_succ] at hax
      subst hax
      have HK := Lib.hid hK
      have e14 : x14 = .int .u64 V4 := hp 14 (deps_at (k := 0) rfl rfl rfl hd)
      subst e14
      have HP := Lib.hid hp
      clear hK hp hf hd
      go_simp
      exact HK.out _ _ ⟨x0, x1, x2, x3, x4, x5, x6, x7, x8, x9, x10, x11, x12, x13, .int .u64 V4, .int .u32 V4, x16, x17, x18, x19, x20, x21, (by simp only [Act.put, List.setIfInBounds_toArray, List.set_cons_zero, List.set_cons_succ]), hB, stepP [x0, x1, x2, x3, x4, x5, x6, x7, x8, x9, x10, x11, x12, x13, .int .u64 V4, x15, x16, x17, x18, x19, x20, x21] 15 (.int .u32 V4) HP.out (by simp) rfl⟩
    · intro f ax wx hJ hf hd K' hK
      obtain ⟨x0, x1, x2, x3, x4, x5, x6, x7, x8, x9, x10, x11, x12, x13, x14, x15, x16, x17, x18, x19, x20, x21, hax, hB, hp⟩ := hJ
      simp only [Act.put, List.setIfInBounds_toArray, List.set_cons_zero, List.set_cons_succ] at hax
      subst hax
      have HK := Lib.hid hK
      have HP := Lib.hid hp
      clear hK hp hf hd
      go_simp
      exact HK.out _ _ ⟨x0, x1, x2, x3, x4, x5, x6, x7, x8, x9, x10, x11, x12, x13, x14, x15, .slice (some ⟨wx.heap.size, 0, none⟩) 0 0, x17, x18, x19, x20, x21, (by simp only [Act.put, List.setIfInBounds_toArray, List.set_cons_zero, List.set_cons_succ]), hB.trans (((Below.refl _ _).alloc (Nat.le_refl _) _).mono hB.size), stepB [x0, x1, x2, x3, x4, x5, x6, x7, x8, x9, x10, x11, x12, x13, x14, x15, x16, x17, x18, x19, x20, x21] 16 (.slice (some ⟨wx.heap.size, 0, none⟩) 0 0) ((Below.refl _ _).alloc (Nat.le_refl _) _) HP.out (by simp) ⟨wx.heap.size, rfl, owns_base (World.ownsRow_lit wx #[] 0 (Nat.le_refl _) (by decide) rfl) hB.size⟩⟩
    · intro f ax wx hJ hf hd K' hK
      obtain ⟨x0, x1, x2, x3, x4, x5, x6, x7, x8, x9, x10, x11, x12, x13, x14, x15, x16, x17, x18, x19, x20, x21, hax, hB, hp⟩ := hJ
      simp only [Act.put, List.setIfInBounds_toArray, List.set_cons_zero, List.set_cons_succ] at hax
      subst hax
      have HK := Lib.hid hK
      have HP := Lib.hid hp
      clear hK hp hf hd
      go_simp
      exact HK.out _ _ ⟨x0, x1, x2, x3, x4, x5, x6, x7, x8, x9, x10, x11, x12, x13, x14, x15, x16, .slice (some ⟨g, 0, none⟩) (m + 16) k5, x18, x19, x20, x21, (by simp only [Act.put, List.setIfInBounds_toArray, List.set_cons_zero, List.set_cons_succ]), hB, stepP [x0, x1, x2, x3, x4, x5, x6, x7, x8, x9, x10, x11, x12, x13, x14, x15, x16, x17, x18, x19, x20, x21] 17 (.slice (some ⟨g, 0, none⟩) (m + 16) k5) HP.out (by simp) rfl⟩
    · intro f ax wx hJ hf hd K' hK
      obtain ⟨x0, x1, x2, x3, x4, x5, x6, x7, x8, x9, x10, x11, x12, x13, x14, x15, x16, x17, x18, x19, x20, x21, hax, hB, hp⟩ := hJ
      simp only [Act.put, List.setIfInBounds_toArray, List.set_cons_zero, List.set_cons_succ] at hax
      subst hax
      have HK := Lib.hid hK
      have e17 : x17 = .slice (some ⟨g, 0, none⟩) (m + 16) k5 := hp 17 (deps_at (k := 0) rfl rfl rfl hd)
      subst e17
      have HP := Lib.hid hp
      clear hK hp hf hd
      rcases HAD.out with ⟨h16, hAD⟩ | ⟨h16, hAD⟩
      all_goals (go_simp; exact HK.out _ _ ⟨x0, x1, x2, x3, x4, x5, x6, x7, x8, x9, x10, x11, x12, x13, x14, x15, x16, .slice (some ⟨g, 0, none⟩) (m + 16) k5, .slice AD m (k5 - 16), x19, x20, x21, (by simp only [hAD, Act.put, List.setIfInBounds_toArray, List.set_cons_zero, List.set_cons_succ]), hB, stepP [x0, x1, x2, x3, x4, x5, x6, x7, x8, x9, x10, x11, x12, x13, x14, x15, x16, .slice (some ⟨g, 0, none⟩) (m + 16) k5, x18, x19, x20, x21] 18 (.slice AD m (k5 - 16)) HP.out (by simp) rfl⟩)
    · intro f ax wx hJ hf hd K' hK
      obtain ⟨x0, x1, x2, x3, x4, x5, x6, x7, x8, x9, x10, x11, x12, x13, x14, x15, x16, x17, x18, x19, x20, x21, hax, hB, hp⟩ := hJ
      simp only [Act.put, List.setIfInBounds_toArray, List.set_cons_zero, List.set_cons_succ] at hax
      subst hax
      have HK := Lib.hid hK
      obtain ⟨g6, e16, f16⟩ := hp 16 (deps_at (k := 0) rfl rfl rfl hd)
      subst e16
      have F16 := Lib.hid f16
      clear f16
      have e18 : x18 = .slice AD m (k5 - 16) := hp 18 (deps_at (k := 1) rfl rfl rfl hd)
      subst e18
      have HP := Lib.hid hp
      clear hK hp hf hd
      refine step_dup_at wx (by rfl) (.tmp 40) (.tmp 42) _ (by rfl) w5.heap.size 5 ib _ 1 Try.underlying23 hib hbz hb1 hb2 rfl (some ⟨g6, 0, none⟩) (by rfl) F16.out wx.heap.size AD m (k5 - 16) (ints .u8 R) (by rfl) (by rw [ints_length]; exact RL.out) (SR.out _ hB) (ints_one _ _) (by have := HM.out; omega) (by have := HM.out; omega) hB.size ?_
      intro A8 k8 w9 hown9 hb9
      exact HK.out _ _ ⟨x0, x1, x2, x3, x4, x5, x6, x7, x8, x9, x10, x11, x12, x13, x14, x15, .slice (some ⟨g6, 0, none⟩) 0 0, x17, .slice AD m (k5 - 16), .slice A8 m k8, x20, x21, (by simp only [List.getElem_toArray, List.getElem_cons_succ, List.getElem_cons_zero, Act.put, List.setIfInBounds_toArray, List.set_cons_zero, List.set_cons_succ]), hB.trans (hb9.mono hB.size), stepB [x0, x1, x2, x3, x4, x5, x6, x7, x8, x9, x10, x11, x12, x13, x14, x15, .slice (some ⟨g6, 0, none⟩) 0 0, x17, .slice AD m (k5 - 16), x19, x20, x21] 19 (.slice A8 m k8) hb9 HP.out (by simp) ⟨A8, k8, rfl, hown9⟩⟩
    · intro f ax wx hJ hf hd K' hK
      obtain ⟨x0, x1, x2, x3, x4, x5, x6, x7, x8, x9, x10, x11, x12, x13, x14, x15, x16, x17, x18, x19, x20, x21, hax, hB, hp⟩ := hJ
      simp only [Act.put, List.setIfInBounds_toArray, List.set_cons_zero, List.set_cons_succ] at hax
      subst hax
      have HK := Lib.hid hK
      have e3 : x3 = .int .u32 V1 := hp 3 (deps_at (k := 0) rfl rfl rfl hd)
      subst e3
      have e7 : x7 = .int .u32 V2 := hp 7 (deps_at (k := 1) rfl rfl rfl hd)
      subst e7
      have e11 : x11 = .int .u32 V3 := hp 11 (deps_at (k := 2) rfl rfl rfl hd)
      subst e11
      have e15 : x15 = .int .u32 V4 := hp 15 (deps_at (k := 3) rfl rfl rfl hd)
      subst e15
      obtain ⟨A9, k9, e19, f19⟩ := hp 19 (deps_at (k := 4) rfl rfl rfl hd)
      subst e19
      have F19 := Lib.hid f19
      clear f19
      have HP := Lib.hid hp
      clear hK hp hf hd
      go_simp
      exact HK.out _ _ ⟨x0, x1, x2, .int .u32 V1, x4, x5, x6, .int .u32 V2, x8, x9, x10, .int .u32 V3, x12, x13, x14, .int .u32 V4, x16, x17, x18, .slice A9 m k9, frmV V1 V2 V3 V4 A9 m k9, x21, (by simp only [Act.put, List.setIfInBounds_toArray, List.set_cons_zero, List.set_cons_succ]), hB, stepP [x0, x1, x2, .int .u32 V1, x4, x5, x6, .int .u32 V2, x8, x9, x10, .int .u32 V3, x12, x13, x14, .int .u32 V4, x16, x17, x18, .slice A9 m k9, x20, x21] 20 (frmV V1 V2 V3 V4 A9 m k9) HP.out (by simp) ⟨A9, k9, rfl, F19.out⟩⟩
    · intro f ax wx hJ hf hd K' hK
      obtain ⟨x0, x1, x2, x3, x4, x5, x6, x7, x8, x9, x10, x11, x12, x13, x14, x15, x16, x17, x18, x19, x20, x21, hax, hB, hp⟩ := hJ
      simp only [Act.put, List.setIfInBounds_toArray, List.set_cons_zero, List.set_cons_succ] at hax
      subst hax
      have HK := Lib.hid hK
      have HP := Lib.hid hp
      clear hK hp hf hd
      go_simp
      exact HK.out _ _ ⟨x0, x1, x2, x3, x4, x5, x6, x7, x8, x9, x10, x11, x12, x13, x14, x15, x16, x17, x18, x19, x20, .pointer (some ⟨wx.heap.size, 0, none⟩), (by simp only [Act.put, List.setIfInBounds_toArray, List.set_cons_zero, List.set_cons_succ]), hB.trans (((Below.refl _ _).alloc (Nat.le_refl _) _).mono hB.size), stepB [x0, x1, x2, x3, x4, x5, x6, x7, x8, x9, x10, x11, x12, x13, x14, x15, x16, x17, x18, x19, x20, x21] 21 (.pointer (some ⟨wx.heap.size, 0, none⟩)) ((Below.refl _ _).alloc (Nat.le_refl _) _) HP.out (by simp) ⟨wx.heap.size, rfl, Blk.new wx 25 (frmL 0 0 0 0 none 0 0), hB.size⟩⟩
  · intro f ax wx hall hJ fuel
    obtain ⟨x0, x1, x2, x3, x4, x5, x6, x7, x8, x9, x10, x11, x12, x13, x14, x15, x16, x17, x18, x19, x20, x21, hax, hB, hp⟩ := hJ
    simp only [Act.put, List.setIfInBounds_toArray, List.set_cons_zero, List.set_cons_succ] at hax
    have e0 : x0 = .slice (some ⟨g, 0, none⟩) (m + 16) k5 := hp 0 (hall 0 (by decide))
    subst e0
    have e1 : x1 = .slice (some ⟨g, 0, none⟩) 4 k5 := hp 1 (hall 1 (by decide))
    subst e1
    have e2 : x2 = .int .u64 V1 := hp 2 (hall 2 (by decide))
    subst e2
    have e3 : x3 = .int .u32 V1 := hp 3 (hall 3 (by decide))
    subst e3
    have e4 : x4 = .slice (some ⟨g, 0, none⟩) (m + 16) k5 := hp 4 (hall 4 (by decide))
    subst e4
    have e5 : x5 = .slice (some ⟨g, 4, none⟩) 4 (k5 - 4) := hp 5 (hall 5 (by decide))
    subst e5
    have e6 : x6 = .int .u64 V2 := hp 6 (hall 6 (by decide))
    subst e6
    have e7 : x7 = .int .u32 V2 := hp 7 (hall 7 (by decide))
    subst e7
    have e8 : x8 = .slice (some ⟨g, 0, none⟩) (m + 16) k5 := hp 8 (hall 8 (by decide))
    subst e8
    have e9 : x9 = .slice (some ⟨g, 8, none⟩) 4 (k5 - 8) := hp 9 (hall 9 (by decide))
    subst e9
    have e10 : x10 = .int .u64 V3 := hp 10 (hall 10 (by decide))
    subst e10
    have e11 : x11 = .int .u32 V3 := hp 11 (hall 11 (by decide))
    subst e11
    have e12 : x12 = .slice (some ⟨g, 0, none⟩) (m + 16) k5 := hp 12 (hall 12 (by decide))
    subst e12
    have e13 : x13 = .slice (some ⟨g, 12, none⟩) 4 (k5 - 12) := hp 13 (hall 13 (by decide))
    subst e13
    have e14 : x14 = .int .u64 V4 := hp 14 (hall 14 (by decide))
    subst e14
    have e15 : x15 = .int .u32 V4 := hp 15 (hall 15 (by decide))
    subst e15
    obtain ⟨g6, e16, f16⟩ := hp 16 (hall 16 (by decide))
    subst e16
    have F16 := Lib.hid f16
    clear f16
    have e17 : x17 = .slice (some ⟨g, 0, none⟩) (m + 16) k5 := hp 17 (hall 17 (by decide))
    subst e17
    have e18 : x18 = .slice AD m (k5 - 16) := hp 18 (hall 18 (by decide))
    subst e18
    obtain ⟨A9, k9, e19, f19⟩ := hp 19 (hall 19 (by decide))
    subst e19
    have F19 := Lib.hid f19
    clear f19
    obtain ⟨B9, j9, e20, f20⟩ := hp 20 (hall 20 (by decide))
    subst e20
    have F20 := Lib.hid f20
    clear f20
    obtain ⟨h9, e21, f21⟩ := hp 21 (hall 21 (by decide))
    subst e21
    have F21 := Lib.hid f21
    clear f21
    subst hax
    clear hp hall
    obtain ⟨hy, hyl⟩ := F21.out
    obtain ⟨y0, y1, y2, y3, y4⟩ := hy.frm
    have fy := hy.free
    have e0 := fy 0
    have e1' := fy 1
    have e2' := fy 2
    have e3' := fy 3
    have e4' := fy 4
    change wpAny _ _ _ _ (fuel + 1) _ _ _
    refine wpAny_ready (rs := [22]) (by kernel_rfl) (by simp) ?_
    refine AllReady.cons rfl (fun K hK => ?_) AllReady.nil
    have HK := Lib.hid hK
    clear hK
    go_simp
    refine HK.out _ _ ?_
    clear HK K
    refine wpAny_done (by kernel_rfl) ?_ _
    have Y := Lib.hid (hy.frm5 (.int .u32 V1) (.int .u32 V2) (.int .u32 V3) (.int .u32 V4) (.slice B9 m j9))
    have OW := Lib.hid (owns_frm F20.out hy (by decide) (.int .u32 V1) (.int .u32 V2) (.int .u32 V3) (.int .u32 V4) (.slice B9 m j9))
    have BX := Lib.hid (below_frm hB hyl (.int .u32 V1) (.int .u32 V2) (.int .u32 V3) (.int .u32 V4) (.slice B9 m j9))
    have HYL := Lib.hid hyl
    obtain ⟨v9, hv9⟩ : ∃ x : World, x = (((((wx.setCell ⟨h9, 0, none⟩ (.int .u32 V1)).setCell ⟨h9, 1, none⟩ (.int .u32 V2)).setCell ⟨h9, 2, none⟩ (.int .u32 V3)).setCell ⟨h9, 3, none⟩ (.int .u32 V4)).setCell ⟨h9, 4, none⟩ (.slice B9 m j9)) := ⟨_, rfl⟩
    rw [← hv9] at Y OW BX ⊢
    clear hv9 hy hyl y0 y1 y2 y3 y4 fy e0 e1' e2' e3' e4' hB F16 F19 F20 F21 e1 e2 e3 e4
    obtain ⟨c0, c1, c2, c3, c4⟩ := Y.out.frm
    have M := Lib.hid (rmayF_any V1 V2 V3 V4 B9 m j9 v9)
    by_cases hmy : mayN V1 V3 m
    · rw [decide_eq_true hmy] at M
      have HKK := Lib.hid (HK1.out hmy)
      clear hmy
      go_wp2_with fail
      refine M.out.mono ?_
      rintro e w6 ⟨rfl, hb⟩
      have Y6 := Lib.hid (Y.out.below hb Y.out.lt)
      have O6 := Lib.hid (owns_below OW.out hb)
      have B6 := Lib.hid (BX.out.trans (hb.mono BX.out.size))
      clear hb M c0 c1 c2 c3 c4
      obtain ⟨c0, c1, c2, c3, c4⟩ := Y6.out.frm
      have X6 := Lib.hid (X5.out.below B6.out X5.out.lt)
      obtain ⟨d0, d1, d2, d3, d4⟩ := X6.out.frm
      have f0 := X6.out.free 0
      have f1 := X6.out.free 1
      have f2 := X6.out.free 2
      have f3 := X6.out.free 3
      have f4 := X6.out.free 4
      go_wp2
      obtain ⟨z0, z1, z2, z3, z4⟩ := (X6.out.frm5 (.int .u32 V1) (.int .u32 V2) (.int .u32 V3) (.int .u32 V4) (.slice B9 m j9)).frm
      have BF := Lib.hid (below_frm (g := w.heap.size) (B5.out.trans (B6.out.mono B5.out.size)) (Nat.le_refl _) (.int .u32 V1) (.int .u32 V2) (.int .u32 V3) (.int .u32 V4) (.slice B9 m j9))
      have OF := Lib.hid (owns_frm O6.out X6.out (by decide) (.int .u32 V1) (.int .u32 V2) (.int .u32 V3) (.int .u32 V4) (.slice B9 m j9))
      refine bodyPost_ret (v := .tuple #[frmV V1 V2 V3 V4 B9 m j9, .int .i64 0]) ?_ rfl (HKK.out _ _ ⟨B9, j9, by rw [show (V1, V2, V3, V4, R).2.2.2.2.length = m from RL.out], by rw [show (V1, V2, V3, V4, R).2.2.2.2.length = m from RL.out]; exact owns_base OF.out B5.out.size, BF.out⟩)
      clear c0 c1 c2 c3 c4 d0 d1 d2 d3 d4 f0 f1 f2 f3 f4
      simp [results, Try.f15, go_sem, z0, z1, z2, z3, z4]
    · rw [decide_eq_false hmy] at M
      have HKK := Lib.hid (HK2.out hmy)
      clear hmy
      go_wp2_with fail
      refine M.out.mono ?_
      rintro e w6 ⟨rfl, hb⟩
      have B6 := Lib.hid (BX.out.trans (hb.mono BX.out.size))
      clear hb M c0 c1 c2 c3 c4
      have X6 := Lib.hid (X5.out.below B6.out X5.out.lt)
      obtain ⟨d0, d1, d2, d3, d4⟩ := X6.out.frm
      have f0 := X6.out.free 0
      have f1 := X6.out.free 1
      have f2 := X6.out.free 2
      have f3 := X6.out.free 3
      have f4 := X6.out.free 4
      go_wp2
      obtain ⟨z0, z1, z2, z3, z4⟩ := (X6.out.frm5 (.int .u32 0) (.int .u32 0) (.int .u32 0) (.int .u32 0) (.slice none 0 0)).frm
      have BF := Lib.hid (below_frm (g := w.heap.size) (B5.out.trans (B6.out.mono B5.out.size)) (Nat.le_refl _) (.int .u32 0) (.int .u32 0) (.int .u32 0) (.int .u32 0) (.slice none 0 0))
      refine bodyPost_ret (v := .tuple #[frmV 0 0 0 0 none 0 0, .int .i64 150]) ?_ rfl (HKK.out _ _ ⟨none, 0, rfl, World.ownsRow_nil _ _ _ _, BF.out⟩)
      clear d0 d1 d2 d3 d4 f0 f1 f2 f3 f4
      simp [results, Try.f15, go_sem, z0, z1, z2, z3, z4]

theorem rreadF_any (A : Option Addr) (n c : Nat) (t : List Int) (w : World) (h : Arg w .u8 A n c t) (hby : ∀ z ∈ t, isByte z) :
    Calls Try.prog 15 #[.slice A n c] w (FrdOut w (fdV t) (fdE t)) := by
  have hl := h.len
  by_cases h1 : n < 20
  · have e : fdE t = 10 := by unfold fdE; rw [if_pos (by omega)]
    unfold fdV
    rw [e, if_neg (by decide)]
    exact rreadF_short A n c w h1
  · by_cases h2 : 84 < n
    · have e : fdE t = 150 := by unfold fdE; rw [if_neg (by omega), if_pos (by omega)]
      unfold fdV
      rw [e, if_neg (by decide)]
      exact rreadF_long A n c w h2
    · have e : fdE t = if opE t = 0 then (if mayF (frV (opB t)) then 0 else 150) else opE t := by unfold fdE; rw [if_neg (by omega), if_neg (by omega)]
      by_cases h3 : opE t = 0
      · obtain ⟨m, rfl⟩ : ∃ m, n = m + 20 := ⟨n - 20, by omega⟩
        have r := rreadF_yes A m c t w h hby (by omega) h3
        rw [if_pos h3] at e
        have e2 : fdV t = if mayF (frV (opB t)) then frV (opB t) else zFr := by
          unfold fdV
          rw [e]
          by_cases hm : mayF (frV (opB t))
          · rw [if_pos hm, if_pos hm, if_pos rfl]
          · rw [if_neg hm, if_neg hm, if_neg (by decide)]
        rw [e, e2]
        exact r
      · rw [if_neg h3] at e
        unfold fdV
        rw [e, if_neg h3]
        exact rreadF_bad A n c t w h hby ⟨by omega, by omega⟩ h3
end Go.Proofs.Ytdgfofemogmmkaa
