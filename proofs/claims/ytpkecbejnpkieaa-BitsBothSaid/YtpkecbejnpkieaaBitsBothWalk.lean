/- Layer 3, BitsBoth: the walk: two sets put together, told and counted. -/
import Derived.Test.YtpkecbejnpkieaaBitsL
namespace Go.Proofs.Ytpkecbejnpkieaa
open Go.RowKit
set_option linter.unusedVariables false

theorem count_parts (l : List Nat) (p q : Nat → Bool) : (l.filter (fun u => p u || q u)).length = (l.filter (fun u => p u && !q u)).length + (l.filter q).length := by
  induction l with
  | nil => rfl
  | cons x l ih =>
    simp only [List.filter_cons]
    cases hp : p x <;> cases hq : q x <;> simp [ih] <;> omega
theorem listN_made {m : Nat} (h1 : 1 ≤ m) (h2 : m ≤ 16) (f : Nat → Bool) : listN (m : Int) (made m f) = (List.range m).filter f := by
  unfold listN
  rw [if_pos (chk_set h1 h2 (made_isSet m f)), Int.toNat_natCast]
  refine List.filter_congr fun x hx => ?_
  rw [hasT_made]
  simp [List.mem_range.1 hx]
theorem both_count {m : Nat} {a b : List Int} (h1 : 1 ≤ m) (h2 : m ≤ 16) (ha : IsSet m a) (hb : IsSet m b) :
    (listN (m : Int) (orB m a b)).length = (listN (m : Int) (minusB m a b)).length + (listN (m : Int) b).length := by
  unfold orB minusB
  rw [if_pos (bothE_ok h1 h2 ha hb), if_pos (bothE_ok h1 h2 ha hb), Int.toNat_natCast, listN_made h1 h2, listN_made h1 h2, count_parts]
  unfold listN
  rw [if_pos (chk_set h1 h2 hb), Int.toNat_natCast]
theorem trk_same {m : Nat} {a b : List Int} (h1 : 1 ≤ m) (h2 : m ≤ 16) (ha : IsSet m a) (hb : IsSet m b) (t : Int) : trkE (m : Int) a t = trkE m b t := by
  unfold trkE
  rw [if_pos (chk_set h1 h2 ha), if_pos (chk_set h1 h2 hb)]
theorem or_isSet {m : Nat} {a b : List Int} (h1 : 1 ≤ m) (h2 : m ≤ 16) (ha : IsSet m a) (hb : IsSet m b) : orB (m : Int) a b = made m (fun u => hasT a u || hasT b u) := by
  unfold orB; rw [if_pos (bothE_ok h1 h2 ha hb), Int.toNat_natCast]
theorem minus_isSet {m : Nat} {a b : List Int} (h1 : 1 ≤ m) (h2 : m ≤ 16) (ha : IsSet m a) (hb : IsSet m b) : minusB (m : Int) a b = made m (fun u => hasT a u && !hasT b u) := by
  unfold minusB; rw [if_pos (bothE_ok h1 h2 ha hb), Int.toNat_natCast]
theorem has_or {m : Nat} {a b : List Int} (h1 : 1 ≤ m) (h2 : m ≤ 16) (ha : IsSet m a) (hb : IsSet m b) (t : Int) (ht : trkE (m : Int) a t = 0) : hasV m (orB m a b) t = (hasV m a t || hasV m b t) ∧ hasV m (minusB m a b) t = (hasV m a t && !hasV m b t) := by
  obtain ⟨m', u, e, rfl, _, _, h3, _⟩ := trkE_zero ha.byte ht
  have e : m = m' := by omega
  subst e
  have x1 := (trk_same h1 h2 ha hb u).symm.trans ht
  have x2 := (trk_same h1 h2 ha (made_isSet m (fun u => hasT a u || hasT b u)) u).symm.trans ht
  have x3 := (trk_same h1 h2 ha (made_isSet m (fun u => hasT a u && !hasT b u)) u).symm.trans ht
  rw [or_isSet h1 h2 ha hb, minus_isSet h1 h2 ha hb]
  unfold hasV
  rw [ht, x1, x2, x3, Int.toNat_natCast, hasT_made, hasT_made]
  simp [h3]

set_option maxRecDepth 100000 in
set_option maxHeartbeats 3200000 in
theorem walk_BitsBoth (a0 : Int) (a1 : Option Addr) (len1 cap1 : Nat) (z1 : List Int) (a2 : Option Addr) (len2 cap2 : Nat) (z2 : List Int) (a3 : Int) (w : World) (w0 : (Lit.int .i64 a0).wf = true) (w1 : IsRow .u8 w a1 len1 cap1 z1) (w2 : IsRow .u8 w a2 len2 cap2 z2) (w3 : (Lit.int .i64 a3).wf = true) :
    Calls Try.prog 8 #[.int .i64 a0, .slice a1 len1 cap1, .slice a2 len2 cap2, .int .i64 a3] w fun e w' => e = .returned (.bool true) ∧ Below w.heap.size w w' := by
  obtain ⟨a, ha, haw⟩ := w1.arg
  obtain ⟨b, hb, hbw⟩ := w2.arg
  have HAW := Lib.hid (fun z hz => wf_byte (haw z hz))
  have HBW := Lib.hid (fun z hz => wf_byte (hbw z hz))
  have HA := Lib.hid ha
  have HB := Lib.hid hb
  clear ha hb haw hbw w1 w2 w0 w3
  have AL := Lib.hid (alive_any w)
  by_cases g0 : 100 < len1
  · go_enter Try.func8, Try.ntmps8
    go_wp2_with fail
    refine AL.out.mono ?_
    rintro e w1 ⟨rfl, hb1⟩
    go_wp2
    go_ret
    exact ⟨rfl, hb1⟩
  by_cases g1 : 100 < len2
  · go_enter Try.func8, Try.ntmps8
    go_wp2_with fail
    refine AL.out.mono ?_
    rintro e w1 ⟨rfl, hb1⟩
    go_wp2
    go_ret
    exact ⟨rfl, hb1⟩
  by_cases hE : bothE a0 a b = 0
  · obtain ⟨m, rfl, h1, h2, h3, h4⟩ := bothE_zero HAW.out HBW.out hE
    have hor := or_isSet h1 h2 h3 h4
    have hmi := minus_isSet h1 h2 h3 h4
    have so : IsSet m (orB m a b) := by rw [hor]; exact made_isSet _ _
    have sm : IsSet m (minusB m a b) := by rw [hmi]; exact made_isSet _ _
    have hcnt := both_count h1 h2 h3 h4
    have ko := chk_set h1 h2 so
    have km := chk_set h1 h2 sm
    have kb := chk_set h1 h2 h4
    have tb := trk_same h1 h2 h4 h3 a3
    have to' := trk_same h1 h2 so h3 a3
    have tm := trk_same h1 h2 sm h3 a3
    have hv := fun ht => has_or h1 h2 h3 h4 a3 ht
    have l1 := listN_length m (orB m a b)
    have l2 := listN_length m (minusB m a b)
    have l3 := listN_length m b
    have X1 := fun wx hx hy => Or_any m a1 len1 cap1 a a2 len2 cap2 b wx hx HAW.out hy HBW.out
    have X2 := fun wx hx hy => Minus_any m a1 len1 cap1 a a2 len2 cap2 b wx hx HAW.out hy HBW.out
    rw [hE] at X1 X2
    have X3 := fun A k c wx hx => Count_any m A k c (orB m a b) wx hx so.byte
    have X4 := fun A k c wx hx => Count_any m A k c (minusB m a b) wx hx sm.byte
    have X5 := fun wx hx => Count_any m a2 len2 cap2 b wx hx HBW.out
    have X6 := fun wx hx => Has_any m a1 len1 cap1 a a3 wx hx HAW.out
    have X7 := fun wx hx => Has_any m a2 len2 cap2 b a3 wx hx HBW.out
    have X8 := fun A k c wx hx => Has_any m A k c (orB m a b) a3 wx hx so.byte
    have X9 := fun A k c wx hx => Has_any m A k c (minusB m a b) a3 wx hx sm.byte
    rw [ko] at X3
    rw [km] at X4
    rw [kb] at X5
    rw [tb] at X7
    rw [to'] at X8
    rw [tm] at X9
    obtain ⟨T, hT⟩ : ∃ T, T = trkE (m : Int) a a3 := ⟨_, rfl⟩
    rw [← hT] at X6 X7 X8 X9 hv
    obtain ⟨O, hO⟩ : ∃ O, O = orB (m : Int) a b := ⟨_, rfl⟩
    obtain ⟨M, hM⟩ : ∃ M, M = minusB (m : Int) a b := ⟨_, rfl⟩
    rw [← hO] at X1 X3 X8 hcnt l1 hv
    rw [← hM] at X2 X4 X9 hcnt l2 hv
    obtain ⟨p, hp⟩ : ∃ p, p = (listN (m : Int) O).length := ⟨_, rfl⟩
    obtain ⟨q, hq⟩ : ∃ q, q = (listN (m : Int) M).length := ⟨_, rfl⟩
    obtain ⟨r, hr⟩ : ∃ r, r = (listN (m : Int) b).length := ⟨_, rfl⟩
    rw [← hp] at X3 hcnt l1
    rw [← hq] at X4 hcnt l2
    rw [← hr] at X5 hcnt l3
    obtain ⟨iA, hiA⟩ : ∃ iA, iA = hasV (m : Int) a a3 := ⟨_, rfl⟩
    obtain ⟨iB, hiB⟩ : ∃ iB, iB = hasV (m : Int) b a3 := ⟨_, rfl⟩
    obtain ⟨iO, hiO⟩ : ∃ iO, iO = hasV (m : Int) O a3 := ⟨_, rfl⟩
    obtain ⟨iM, hiM⟩ : ∃ iM, iM = hasV (m : Int) M a3 := ⟨_, rfl⟩
    rw [← hiA] at X6 hv
    rw [← hiB] at X7 hv
    rw [← hiO] at X8 hv
    rw [← hiM] at X9 hv
    have X1 := Lib.hid X1
    have X2 := Lib.hid X2
    have X3 := Lib.hid X3
    have X4 := Lib.hid X4
    have X5 := Lib.hid X5
    have X6 := Lib.hid X6
    have X7 := Lib.hid X7
    have X8 := Lib.hid X8
    have X9 := Lib.hid X9
    have HV := Lib.hid hv
    have hpq : (p : Int) = (q : Int) + (r : Int) := by omega
    clear hor hmi so sm hcnt ko km kb tb to' tm hv hT hO hM hp hq hr hiA hiB hiO hiM h3 h4 hE
    go_enter Try.func8, Try.ntmps8
    go_wp2_with fail
    refine AL.out.mono ?_
    rintro e w1 ⟨rfl, hb1⟩
    have B1 := Lib.hid hb1
    clear hb1 AL
    go_wp2_with fail
    refine (X1.out w1 (HA.out.below B1.out) (HB.out.below B1.out)).mono ?_
    rintro e w2 ⟨Ao, co, rfl, hown, hbel⟩
    have B2 := Lib.hid (B1.out.trans (hbel.mono B1.out.size))
    have SO := Lib.hid (Arg.own hown)
    clear hown hbel
    go_wp2_with fail
    refine (X2.out w2 (HA.out.below B2.out) (HB.out.below B2.out)).mono ?_
    rintro e w3 ⟨Am, cm, rfl, hown, hbel⟩
    have B3 := Lib.hid (B2.out.trans (hbel.mono B2.out.size))
    have SM := Lib.hid (Arg.own hown)
    have SO := Lib.hid (SO.out.below hbel)
    clear hown hbel
    go_wp2_with fail
    refine (X3.out Ao _ co w3 SO.out).mono ?_
    rintro e w4 ⟨rfl, hbel⟩
    have B4 := Lib.hid (B3.out.trans (hbel.mono B3.out.size))
    have SM := Lib.hid (SM.out.below hbel)
    have SO := Lib.hid (SO.out.below hbel)
    clear hbel
    go_wp2_with fail
    refine (X4.out Am _ cm w4 SM.out).mono ?_
    rintro e w5 ⟨rfl, hbel⟩
    have B5 := Lib.hid (B4.out.trans (hbel.mono B4.out.size))
    have SM := Lib.hid (SM.out.below hbel)
    have SO := Lib.hid (SO.out.below hbel)
    clear hbel
    go_wp2_with fail
    refine (X5.out w5 (HB.out.below B5.out)).mono ?_
    rintro e w6 ⟨rfl, hbel⟩
    have B6 := Lib.hid (B5.out.trans (hbel.mono B5.out.size))
    have SM := Lib.hid (SM.out.below hbel)
    have SO := Lib.hid (SO.out.below hbel)
    clear hbel
    go_wp2_with fail
    refine (X6.out w6 (HA.out.below B6.out)).mono ?_
    rintro e w7 ⟨rfl, q1, rfl⟩
    have hd1 := below_drewN (Below.refl w6.heap.size w6) q1
    have B7 := Lib.hid (B6.out.trans (hd1.mono B6.out.size))
    have SM := Lib.hid (SM.out.below hd1)
    have SO := Lib.hid (SO.out.below hd1)
    clear hd1
    obtain ⟨w7, hw7⟩ : ∃ w7, w7 = w6.drewN q1 := ⟨_, rfl⟩
    rw [← hw7] at B7 SM SO ⊢
    clear hw7
    go_wp2_with fail
    refine (X7.out w7 (HB.out.below B7.out)).mono ?_
    rintro e w8 ⟨rfl, q2, rfl⟩
    have hd1 := below_drewN (Below.refl w7.heap.size w7) q2
    have B8 := Lib.hid (B7.out.trans (hd1.mono B7.out.size))
    have SM := Lib.hid (SM.out.below hd1)
    have SO := Lib.hid (SO.out.below hd1)
    clear hd1
    obtain ⟨w8, hw8⟩ : ∃ w8, w8 = w7.drewN q2 := ⟨_, rfl⟩
    rw [← hw8] at B8 SM SO ⊢
    clear hw8
    go_wp2_with fail
    refine (X8.out Ao _ co w8 SO.out).mono ?_
    rintro e w9 ⟨rfl, q3, rfl⟩
    have hd1 := below_drewN (Below.refl w8.heap.size w8) q3
    have B9 := Lib.hid (B8.out.trans (hd1.mono B8.out.size))
    have SM := Lib.hid (SM.out.below hd1)
    clear hd1
    obtain ⟨w9, hw9⟩ : ∃ w9, w9 = w8.drewN q3 := ⟨_, rfl⟩
    rw [← hw9] at B9 SM ⊢
    clear hw9
    go_wp2_with fail
    refine (X9.out Am _ cm w9 SM.out).mono ?_
    rintro e w10 ⟨rfl, q4, rfl⟩
    have B10 := Lib.hid (B9.out.trans ((below_drewN (Below.refl w9.heap.size w9) q4).mono B9.out.size))
    by_cases hT0 : T = 0
    · have hv := HV.out hT0
      obtain ⟨rfl, rfl⟩ := hv
      subst hT0
      clear HV
      cases iA <;> cases iB <;>
      · go_wp2
        go_ret
        exact ⟨rfl, B10.out⟩
    · have hne : (T != 0) = true := by rw [bne_iff_ne]; exact hT0
      clear HV hT0
      go_wp2
      go_ret
      exact ⟨rfl, B10.out⟩
  · have hne : (bothE a0 a b != 0) = true := by rw [bne_iff_ne]; exact hE
    have hor : orB a0 a b = [] := by unfold orB; rw [if_neg hE]
    have hmi : minusB a0 a b = [] := by unfold minusB; rw [if_neg hE]
    have X1 := fun wx hx hy => Or_any a0 a1 len1 cap1 a a2 len2 cap2 b wx hx HAW.out hy HBW.out
    have X2 := fun wx hx hy => Minus_any a0 a1 len1 cap1 a a2 len2 cap2 b wx hx HAW.out hy HBW.out
    rw [hor] at X1
    rw [hmi] at X2
    obtain ⟨E, hEe⟩ : ∃ E, E = bothE a0 a b := ⟨_, rfl⟩
    rw [← hEe] at X1 X2 hne
    have X1 := Lib.hid X1
    have X2 := Lib.hid X2
    clear hE hor hmi hEe
    go_enter Try.func8, Try.ntmps8
    go_wp2_with fail
    refine AL.out.mono ?_
    rintro e w1 ⟨rfl, hb1⟩
    have B1 := Lib.hid hb1
    clear hb1 AL
    go_wp2_with fail
    refine (X1.out w1 (HA.out.below B1.out) (HB.out.below B1.out)).mono ?_
    rintro e w2 ⟨Ao, co, rfl, hown, hbel⟩
    have B2 := Lib.hid (B1.out.trans (hbel.mono B1.out.size))
    clear hown hbel
    go_wp2_with fail
    refine (X2.out w2 (HA.out.below B2.out) (HB.out.below B2.out)).mono ?_
    rintro e w3 ⟨Am, cm, rfl, hown, hbel⟩
    have B3 := Lib.hid (B2.out.trans (hbel.mono B2.out.size))
    clear hown hbel
    go_wp2
    go_ret
    exact ⟨rfl, B3.out⟩

end Go.Proofs.Ytpkecbejnpkieaa
