/- Layer 2: what the document's own Seal and Open return, in the words of CrcMath. -/
import Derived.Test.YtdgfofemogmmkaaCrcS
import Derived.Test.YtdgfofemogmmkaaCopy
import Derived.Test.YtdgfofemogmmkaaBase3
import Derived.Deep.RegionWith
import Derived.Lib.Bytes
namespace Go.Proofs.Ytdgfofemogmmkaa
open Go.RowKit
set_option linter.unusedVariables false

/-- What a call hands back: a row of its own, and nothing that was there has turned. -/
def OneOut (k : IntKind) (t : TypeId) (w : World) (zs : List Int) (n : Nat) (e : Ending) (w' : World) : Prop :=
  ∃ A c, e = .returned (.slice A n c) ∧ w'.ownsRow w.heap.size t 1 (.slice A n c) n (ints k zs) ∧ Below w.heap.size w w'

set_option maxRecDepth 100000 in
set_option maxHeartbeats 800000 in
theorem rsealed_any (A : Option Addr) (n c : Nat) (b : List Int) (w : World) (h : Arg w .u8 A n c b) (hn : n ≤ 5000) (hb : ∀ z ∈ b, isByte z) :
    Calls Try.prog 37 #[.slice A n c] w (OneOut .u8 5 w (sealed b) (n + 4)) := by
  obtain ⟨i0, hi0, hz0, hz1, hz2⟩ := info_parts byte_info
  have hml : (5004 : Nat) ≤ maxLen := by decide
  have hs := rsum_any A n c b w _ h.seq h.len (by omega) hb
  have hsw := sum_w hb
  have hse : sealed b = b ++ le4 (sum b) := rfl
  rw [hse]
  obtain ⟨s, hsn⟩ : ∃ s, s = sum b := ⟨_, rfl⟩
  rw [← hsn] at hs hsw ⊢
  have hs4 : s < 4294967296 := hsw
  have hlit : #[Value.int .u8 ((s : Int) % 256), .int .u8 ((s : Int) / 256 % 256), .int .u8 ((s : Int) / 65536 % 256), .int .u8 ((s : Int) / 16777216)] = (ints .u8 (le4 s)).toArray := by
    simp [ints, le4]
    omega
  have HS := Lib.hid hs
  have LIT := Lib.hid hlit
  have H := Lib.hid h
  obtain ⟨L, hL⟩ : ∃ L, L = le4 s := ⟨_, rfl⟩
  have hLl : L.length = 4 := by rw [hL]; rfl
  rw [← hL] at LIT ⊢
  have HLL := Lib.hid hLl
  clear hs hsw hse hsn hlit h hb hL hLl
  go_enter Try.func37, Try.ntmps37
  go_wp2_with fail
  refine HS.out.mono ?_
  rintro e w' ⟨rfl, rfl⟩
  go_wp2_with (first
    | (at_builtin; refine wpList_dup_g w rfl (.tmp 6) (.tmp 7) _ rfl 5 i0 _ 1 Try.underlying23 hi0 hz0 hz1 hz2 rfl rfl A n c (ints .u8 b) rfl (by rw [ints_length, H.out.len]) H.out.seq (ints_one _ _) (by omega) (by omega) ?_; intro A1 c1 w1 hown1 hbel1; have O1 := Lib.hid hown1; have B1 := Lib.hid hbel1; clear hown1 hbel1)
    | (at_builtin; go_must (refine wpList_behind_g w _ rfl (.tmp 8) (.tmp 20) _ rfl w.heap.size 5 i0 _ 1 Try.underlying23 hi0 hz0 hz1 hz2 rfl A1 n c1 (ints .u8 b) rfl (O1.out.allocated _) (w1.heap.size + 1) (some ⟨w1.heap.size, 0, none⟩) 4 4 (ints .u8 L) rfl (by rw [ints_length, HLL.out]) (lit_row _ _ .u8 L _ _ _ LIT.out rfl (Nat.lt_succ_self _)) (ints_one _ _) (by omega) (by omega) (B1.out.alloc B1.out.size _) (Nat.le_refl _) ?_; intro A2 c2 w2 hown2 hbel2; have O2 := Lib.hid hown2; have B2 := Lib.hid hbel2; clear hown2 hbel2)))
  go_ret
  have ho := O2.out
  rw [← ints_app] at ho
  exact ⟨A2, c2, rfl, ho, B2.out⟩

theorem map_byte_inj : ∀ (x y : List Int), (∀ z ∈ x, isByte z) → (∀ z ∈ y, isByte z) → (x.map fun n => UInt8.ofNat n.toNat) = (y.map fun n => UInt8.ofNat n.toNat) → x = y := by
  intro x
  induction x with
  | nil => intro y _ _ h; cases y with
    | nil => rfl
    | cons b y => cases h
  | cons a x ih =>
    intro y hx hy h
    cases y with
    | nil => cases h
    | cons b y =>
      simp only [List.map_cons, List.cons.injEq] at h
      have ha := hx a (by simp)
      have hb := hy b (by simp)
      unfold isByte at ha hb
      have e : (UInt8.ofNat a.toNat).toNat = (UInt8.ofNat b.toNat).toNat := by rw [h.1]
      rw [UInt8.toNat_ofNat', UInt8.toNat_ofNat'] at e
      have e2 : a = b := by omega
      rw [e2, ih y (fun z hz => hx z (by simp [hz])) (fun z hz => hy z (by simp [hz])) h.2]
/-- Two texts that are read the same are the same bytes. -/
theorem str_ne {x y : List Int} (hx : ∀ z ∈ x, isByte z) (hy : ∀ z ∈ y, isByte z) (h : x ≠ y) : ((strOfNums x).toList == (strOfNums y).toList) = false := by
  rw [beq_eq_false_iff_ne]
  intro e
  rw [Lib.toList_data, Lib.toList_data, strOfNums_data, strOfNums_data] at e
  exact h (map_byte_inj x y hx hy e)

set_option maxRecDepth 100000 in
set_option maxHeartbeats 1600000 in
theorem ropen_yes (b o m c : Nat) (l t : List Int) (w : World) (h : Arg w .u8 (some ⟨b, o, none⟩) (m + 4) c t) (hb : ∀ z ∈ t, isByte z) (hm : m ≤ 4096) (hle : l = t.take m) (he : sealed l = t) :
    Calls Try.prog 28 #[.slice (some ⟨b, o, none⟩) (m + 4) c] w (RowOut .u8 5 w l 0) := by
  obtain ⟨i0, hi0, hz0, hz1, hz2⟩ := info_parts byte_info
  have hml : (5004 : Nat) ≤ maxLen := by decide
  have hseq : Seq w w.heap.size (some ⟨b, o, none⟩) (ints .u8 l) := by
    have := h.seq.take m
    rw [hle]
    rwa [show (ints .u8 t).take m = ints .u8 (t.take m) from by simp [ints]] at this
  have hlm : l.length = m := by rw [hle, List.length_take, h.len]; omega
  have hlb : ∀ z ∈ l, isByte z := by rw [hle]; exact take_byte hb m
  have HB := Lib.hid hb
  have H := Lib.hid h
  have HSEQ := Lib.hid hseq
  have HLM := Lib.hid hlm
  have HLB := Lib.hid hlb
  have HE := Lib.hid he
  have hmc := h.cap
  have hcm := h.max
  clear hb h hseq hlm hlb hle he
  go_enter Try.func28, Try.ntmps28
  go_wp2_with (at_builtin; go_must (refine wpList_dup_g w rfl (.tmp 12) (.tmp 17) _ rfl 5 i0 _ 1 Try.underlying23 hi0 hz0 hz1 hz2 rfl rfl (some ⟨b, o, none⟩) m c (ints .u8 l) rfl (by rw [ints_length, HLM.out]) HSEQ.out (ints_one _ _) (by omega) (by omega) ?_); intro A1 c1 w1 hown1 hbel1; have O1 := Lib.hid hown1; have B1 := Lib.hid hbel1; clear hown1 hbel1)
  have S0 := rsealed_any A1 m c1 l w1.drew (Arg.own (w := w1.drew) O1.out) (by omega) HLB.out
  have HD := Lib.hid (H.out.below (show Below w.heap.size w w1.drew from below_drewN B1.out 1))
  have hst0 := run_str (P := Try.prog) w1.drew 23 9 5 Try.underlying23 Try.underlying5 Try.underlying9 (c := c) HD.out.seq H.out.len
  have BD := Lib.hid (show Below w.heap.size w w1.drew from below_drewN B1.out 1)
  rw [HE.out] at S0
  have S := Lib.hid S0
  clear S0
  go_region_with (go_at_call 37; refine S.out.mono ?_; rintro e w2 ⟨A2, c2, rfl, hown2, hbel2⟩; have hst1 := run_str (P := Try.prog) w2 23 9 5 Try.underlying23 Try.underlying5 Try.underlying9 (c := c) (HD.out.below hbel2).seq H.out.len; have hst2 := run_str (P := Try.prog) w2 23 9 5 Try.underlying23 Try.underlying5 Try.underlying9 (c := c2) (Arg.own hown2).seq (Arg.own hown2).len; have O2 := Lib.hid hown2; have B2 := Lib.hid hbel2; clear hown2 hbel2)
  all_goals
    go_wp2
    go_ret2
    exact ⟨A1, c1, by rw [HLM.out]; rfl, by rw [HLM.out]; exact owns_below (w := w1.drew) O1.out B2.out, BD.out.trans (B2.out.mono BD.out.size)⟩

set_option maxRecDepth 100000 in
set_option maxHeartbeats 1600000 in
theorem ropen_no (b o m c : Nat) (l t : List Int) (w : World) (h : Arg w .u8 (some ⟨b, o, none⟩) (m + 4) c t) (hb : ∀ z ∈ t, isByte z) (hm : m ≤ 4096) (hle : l = t.take m) (he : sealed l ≠ t) :
    Calls Try.prog 28 #[.slice (some ⟨b, o, none⟩) (m + 4) c] w (RowOut .u8 5 w [] 20) := by
  obtain ⟨i0, hi0, hz0, hz1, hz2⟩ := info_parts byte_info
  have hml : (5004 : Nat) ≤ maxLen := by decide
  have hseq : Seq w w.heap.size (some ⟨b, o, none⟩) (ints .u8 l) := by
    have := h.seq.take m
    rw [hle]
    rwa [show (ints .u8 t).take m = ints .u8 (t.take m) from by simp [ints]] at this
  have hlm : l.length = m := by rw [hle, List.length_take, h.len]; omega
  have hlb : ∀ z ∈ l, isByte z := by rw [hle]; exact take_byte hb m
  have HB := Lib.hid hb
  have H := Lib.hid h
  have HSEQ := Lib.hid hseq
  have HLM := Lib.hid hlm
  have HLB := Lib.hid hlb
  have HE := Lib.hid he
  have hmc := h.cap
  have hcm := h.max
  clear hb h hseq hlm hlb hle he
  go_enter Try.func28, Try.ntmps28
  go_wp2_with (at_builtin; go_must (refine wpList_dup_g w rfl (.tmp 12) (.tmp 17) _ rfl 5 i0 _ 1 Try.underlying23 hi0 hz0 hz1 hz2 rfl rfl (some ⟨b, o, none⟩) m c (ints .u8 l) rfl (by rw [ints_length, HLM.out]) HSEQ.out (ints_one _ _) (by omega) (by omega) ?_); intro A1 c1 w1 hown1 hbel1; have O1 := Lib.hid hown1; have B1 := Lib.hid hbel1; clear hown1 hbel1)
  have S0 := rsealed_any A1 m c1 l w1.drew (Arg.own (w := w1.drew) O1.out) (by omega) HLB.out
  have HD := Lib.hid (H.out.below (show Below w.heap.size w w1.drew from below_drewN B1.out 1))
  have hst0 := run_str (P := Try.prog) w1.drew 23 9 5 Try.underlying23 Try.underlying5 Try.underlying9 (c := c) HD.out.seq H.out.len
  have BD := Lib.hid (show Below w.heap.size w w1.drew from below_drewN B1.out 1)
  have hne := str_ne (sealed_byte HLB.out) HB.out HE.out
  have S := Lib.hid S0
  clear S0
  go_region_with (go_at_call 37; refine S.out.mono ?_; rintro e w2 ⟨A2, c2, rfl, hown2, hbel2⟩; have hst1 := run_str (P := Try.prog) w2 23 9 5 Try.underlying23 Try.underlying5 Try.underlying9 (c := c) (HD.out.below hbel2).seq H.out.len; have hst2 := run_str (P := Try.prog) w2 23 9 5 Try.underlying23 Try.underlying5 Try.underlying9 (c := c2) (Arg.own hown2).seq (Arg.own hown2).len; have O2 := Lib.hid hown2; have B2 := Lib.hid hbel2; clear hown2 hbel2)
  all_goals
    go_wp2
    go_ret2
    exact ⟨none, 0, rfl, World.ownsRow_nil _ _ _ _, BD.out.trans (B2.out.mono BD.out.size)⟩

theorem ropen_gen (A : Option Addr) (n c : Nat) (t : List Int) (w : World) (h : Arg w .u8 A n c t) (hb : ∀ z ∈ t, isByte z) :
    Calls Try.prog 28 #[.slice A n c] w (RowOut .u8 5 w (opB t) (opE t)) := by
  have hcap := h.cap
  have hmax := h.max
  unfold maxLen at hmax
  by_cases h4 : n < 4
  · have e1 : opE t = 10 := by unfold opE; rw [h.len, if_pos h4]
    rw [opB_not (by rw [e1]; decide), e1]
    clear h hb e1
    go_enter Try.func28, Try.ntmps28
    go_wp2
    go_ret2
    exact RowOut.nil _ _ _ _
  by_cases h5 : 4100 < n
  · have e1 : opE t = 4 := by unfold opE; rw [h.len, if_neg h4, if_pos h5]
    rw [opB_not (by rw [e1]; decide), e1]
    have h6 : (4096 : Int) < (n : Int) - 4 := by omega
    clear h hb e1
    go_enter Try.func28, Try.ntmps28
    go_wp2
    go_ret2
    exact RowOut.nil _ _ _ _
  obtain ⟨m, rfl⟩ : ∃ m, n = m + 4 := ⟨n - 4, by omega⟩
  obtain ⟨b, o, rfl, _, _⟩ := h.seq.at_ (by rw [ints_length, h.len]; omega)
  have hlm : (t.take m).length = m := by rw [List.length_take, h.len]; omega
  have hlb := take_byte hb m
  by_cases he : sealed (t.take m) = t
  · have e1 : opE t = 0 := by
      have := opE_sealed hlb (by omega)
      rwa [he] at this
    have e2 : opB t = t.take m := by unfold opB; rw [if_pos e1, h.len, Nat.add_sub_cancel]
    rw [e1, e2]
    exact ropen_yes b o m c _ t w h hb (by omega) rfl he
  · have e1 : opE t = 20 := by
      have hne0 : opE t ≠ 0 := fun h0 => he (by
        have h1 := sealed_opB hb h0
        have h2 : opB t = t.take m := by unfold opB; rw [if_pos h0, h.len, Nat.add_sub_cancel]
        rwa [h2] at h1)
      have hln := h.len
      unfold opE at hne0 ⊢
      rw [if_neg (by omega), if_neg (by omega)] at hne0 ⊢
      split at hne0
      · exact absurd rfl hne0
      · rw [if_neg (by assumption)]
    rw [opB_not (by rw [e1]; decide), e1]
    exact ropen_no b o m c _ t w h hb (by omega) rfl he

end Go.Proofs.Ytdgfofemogmmkaa
