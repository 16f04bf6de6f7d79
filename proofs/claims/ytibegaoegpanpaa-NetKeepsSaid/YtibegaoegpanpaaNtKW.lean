/- Layer 16, NetKeeps: the walk, told of what the program's calls do. No statement is proved here. -/
import Derived.Test.YtibegaoegpanpaaNtA
import Derived.Deep.QuietTactic
import Derived.BigQuiet
namespace Go.Proofs.Ytibegaoegpanpaa
open Go.RowKit
set_option linter.unusedVariables false
set_option maxRecDepth 100000

theorem Texts.pre {w : World} {A : Option Addr} {n c k : Nat} {q : List Text} (h : Texts w A n c q) (hk : k ≤ n) : Texts w A k c (q.take k) := by
  refine ⟨by rw [List.length_take, h.len]; omega, Nat.le_trans hk h.cap, h.max, fun zs hz => h.byte zs (List.mem_of_mem_take hz), fun i hi => ?_⟩
  obtain ⟨b, o, Ai, ni, ci, e, hlt, hc, ha⟩ := h.at_ i (by omega)
  refine ⟨b, o, Ai, ni, ci, e, hlt, hc, ?_⟩
  rwa [List.getD_eq_getElem?_getD, List.getElem?_take, if_pos hi, ← List.getD_eq_getElem?_getD]
theorem Texts.post {w : World} {g : Nat} {n c k : Nat} {q : List Text} (h : Texts w (some ⟨g, 0, none⟩) n c q) (hk : k ≤ n) : Texts w (if c = k then some ⟨g, 0, none⟩ else some ⟨g, k, none⟩) (n - k) (c - k) (q.drop k) := by
  have hcap := h.cap
  have hmax := h.max
  refine ⟨by rw [List.length_drop, h.len], by omega, by omega, fun zs hz => h.byte zs (List.mem_of_mem_drop hz), fun i hi => ?_⟩
  obtain ⟨b, o, Ai, ni, ci, e, hlt, hc, ha⟩ := h.at_ (k + i) (by omega)
  injection e with e; injection e with e1 e2; subst e1; subst e2
  rw [Nat.zero_add] at hc
  refine ⟨g, k, Ai, ni, ci, by rw [if_neg (by omega)], hlt, hc, ?_⟩
  rwa [List.getD_eq_getElem?_getD, List.getElem?_drop, ← List.getD_eq_getElem?_getD]
theorem own_ways {w : World} {base : Nat} {A : Option Addr} {n c : Nat} {q : List Text} (h : OwnTexts w base A n c q) : (A = none ∧ n = 0 ∧ c = 0) ∨ ∃ g, A = some ⟨g, 0, none⟩ := by
  obtain ⟨vs, hown, _⟩ := h
  rcases hown.2 with ⟨e, h0⟩ | ⟨g3, cap3, cur3, e3, _⟩
  · injection e with e1 e2 e3
    exact .inl ⟨e1, e2, e3⟩
  · injection e3 with e3
    exact .inr ⟨g3, e3⟩
theorem erase_ends {L : List Text} {k : Nat} (hk : k < L.length) : (L.eraseIdx k).take k = L.take k ∧ (L.eraseIdx k).drop k = L.drop (k + 1) ∧ (L.eraseIdx k).length = L.length - 1 := by
  have e := List.eraseIdx_eq_take_drop_succ L k
  have hl : (L.take k).length = k := by rw [List.length_take]; omega
  refine ⟨?_, ?_, List.length_eraseIdx_of_lt hk⟩
  · rw [e, List.take_append_of_le_length (by omega), List.take_of_length_le (by omega)]
  · rw [e, List.drop_append_of_le_length (by omega), List.drop_of_length_le (by omega), List.nil_append]

set_option maxHeartbeats 1600000 in
theorem keeps16_great (ND : NetDoes) (A : Option Addr) (n c : Nat) (q : List Text) (Ab : Option Addr) (nb cb : Nat) (b : Text) (i : Int) (w : World) (hq : Texts w A n c q) (hb : Arg w .u8 Ab nb cb b) (hby : ∀ z ∈ b, isByte z) (hg : greatB q = true ∨ 200 < nb) :
    Calls Try.prog 5 #[.slice A n c, .slice Ab nb cb, .int .i64 i] w fun e w' => e = .returned (.bool true) ∧ Below w.heap.size w w' := by
  have AL := Lib.hid (alive16_of ND w)
  have G1 := Lib.hid (fun wx (hx : Below w.heap.size w wx) => great16_any A n c q wx (hq.below hx))
  rcases h1 : greatB q with _ | _
  rotate_left
  · rw [h1] at G1
    clear hg hq hb hby h1
    go_enter Try.func5, Try.ntmps5
    go_wp2_with fail
    refine AL.out.mono ?_
    rintro e w1 ⟨rfl, hbb⟩
    have B := Lib.hid hbb
    clear hbb AL
    go_wp2_with fail
    refine (G1.out _ B.out).mono ?_
    rintro e w2 ⟨rfl, rfl⟩
    go_wp2
    go_ret
    exact ⟨rfl, B.out⟩
  rw [h1] at G1
  have h3 : (200 : Int) < (nb : Int) := by
    rcases hg with h | h
    · rw [h1] at h; cases h
    · omega
  clear hg hq hb hby h1
  go_enter Try.func5, Try.ntmps5
  go_wp2_with fail
  refine AL.out.mono ?_
  rintro e w1 ⟨rfl, hbb⟩
  have B := Lib.hid hbb
  clear hbb AL
  go_wp2_with fail
  refine (G1.out _ B.out).mono ?_
  rintro e w2 ⟨rfl, rfl⟩
  go_wp2
  go_ret
  exact ⟨rfl, B.out⟩

set_option maxHeartbeats 12800000 in
theorem keeps16_many (ND : NetDoes) (A : Option Addr) (n c : Nat) (q : List Text) (Ab : Option Addr) (nb cb : Nat) (b : Text) (i : Int) (w : World) (hq : Texts w A n c q) (hb : Arg w .u8 Ab nb cb b) (hby : ∀ z ∈ b, isByte z) (h1 : greatB q = false) (h3 : nb ≤ 200) (hcase : 64 < n) :
    Calls Try.prog 5 #[.slice A n c, .slice Ab nb cb, .int .i64 i] w fun e w' => e = .returned (.bool true) ∧ Below w.heap.size w w' := by
  have AL := Lib.hid (alive16_of ND w)
  have G1 := Lib.hid (fun wx (hx : Below w.heap.size w wx) => great16_any A n c q wx (hq.below hx))
  rw [h1] at G1
  have hs := small_of h1
  have hl := hq.len
  have h3i : ¬ (200 : Int) < (nb : Int) := by omega
  have HS := Lib.hid hs
  have TQ := Lib.hid hq
  have TB := Lib.hid hb
  have HBY := Lib.hid hby
  have PP := Lib.hid ND
  have e1 : ntE q = 8 := if_pos (by omega)
  have e2 : sdL q b = [] := if_pos (by omega)
  have N := Lib.hid (fun wx (hx : Below w.heap.size w wx) => ND.send A n c q Ab nb cb b wx (hq.below hx) hs (hb.below hx) hby h3)
  rw [e1, e2] at N
  have hni : (64 : Int) < (n : Int) := by omega
  clear hs hl hq hb hby h1 h3 ND e1 e2 hcase HS TQ TB HBY PP
  go_enter Try.func5, Try.ntmps5
  go_wp2_with fail
  refine AL.out.mono ?_
  rintro e w1 ⟨rfl, hbb⟩
  have B := Lib.hid hbb
  clear hbb AL
  go_wp2_with fail
  refine (G1.out _ B.out).mono ?_
  rintro e w1' ⟨rfl, rfl⟩
  clear G1
  go_wp2_with fail
  refine (N.out _ B.out).mono ?_
  intro e w2 hout
  obtain ⟨A3, c3, rfl, _, hbb⟩ := hout.is rfl rfl rfl
  have B := Lib.hid (B.out.trans (hbb.mono B.out.size))
  clear hout hbb N
  go_wp2
  go_ret
  exact ⟨rfl, B.out⟩

set_option maxHeartbeats 12800000 in
theorem keeps16_room (ND : NetDoes) (A : Option Addr) (n c : Nat) (q : List Text) (Ab : Option Addr) (nb cb : Nat) (b : Text) (i : Int) (w : World) (hq : Texts w A n c q) (hb : Arg w .u8 Ab nb cb b) (hby : ∀ z ∈ b, isByte z) (h1 : greatB q = false) (h3 : nb ≤ 200) (hcase : n < 64) :
    Calls Try.prog 5 #[.slice A n c, .slice Ab nb cb, .int .i64 i] w fun e w' => e = .returned (.bool true) ∧ Below w.heap.size w w' := by
  have AL := Lib.hid (alive16_of ND w)
  have G1 := Lib.hid (fun wx (hx : Below w.heap.size w wx) => great16_any A n c q wx (hq.below hx))
  rw [h1] at G1
  have hs := small_of h1
  have hl := hq.len
  have h3i : ¬ (200 : Int) < (nb : Int) := by omega
  have HS := Lib.hid hs
  have TQ := Lib.hid hq
  have TB := Lib.hid hb
  have HBY := Lib.hid hby
  have PP := Lib.hid ND
  have e1 : ntE q = 0 := if_neg (by omega)
  obtain ⟨L, hLd⟩ : ∃ x, x = q ++ [b] := ⟨_, rfl⟩
  have e2 : sdL q b = L := by rw [hLd]; unfold sdL sentN; rw [if_neg (by omega), if_pos (by omega)]
  have cnt : countN L b (n + 1) = countN q b n + 1 := by
    have h := countN_snoc q b
    rw [List.length_append, hl] at h
    rw [hLd]
    exact h
  have hL : L.length = n + 1 := by rw [hLd, List.length_append, hl]; rfl
  have htk : L.take n = q := by rw [hLd, List.take_append_of_le_length (by omega), List.take_of_length_le (by omega)]
  have hsm : Small L := by rw [hLd]; exact hs.snoc (by omega) (by have := hb.len; omega)
  have hw1 : IntKind.i64.wrap ((n : Int) + 1) = (n : Int) + 1 := Lib.wrap_i64_small (n + 1) (by omega)
  have hni : (n : Int) < 64 := by omega
  have hnj : ¬ (64 : Int) < (n : Int) := by omega
  have cle := countN_le q b n
  have N := Lib.hid (fun wx (hx : Below w.heap.size w wx) => ND.send A n c q Ab nb cb b wx (hq.below hx) hs (hb.below hx) hby h3)
  rw [e1, e2] at N
  obtain ⟨cn, hcn⟩ : ∃ x, x = countN q b n := ⟨_, rfl⟩
  have CQ := Lib.hid (fun (wx : World) hx1 hx2 => count16_any A n c q Ab nb cb b wx hx1 hx2 hby (by omega))
  rw [← hcn] at CQ
  have CX := Lib.hid (fun (Ax : Option Addr) (kx : Nat) (wx : World) hx1 hx2 => count16_any Ax (n + 1) kx L Ab nb cb b wx hx1 hx2 hby (by omega))
  rw [cnt, ← hcn] at CX
  have hcl : cn ≤ 100 := by omega
  have hw2 : IntKind.i64.wrap ((cn : Int) + 1) = (cn : Int) + 1 := Lib.wrap_i64_small (cn + 1) (by omega)
  have HL := Lib.hid hL
  have HTK := Lib.hid htk
  have HSM := Lib.hid hsm
  clear hs hl hq hb hby h1 ND e1 e2 hcase cnt cle hcn hLd hL htk hsm
  go_enter Try.func5, Try.ntmps5
  go_wp2_with fail
  refine AL.out.mono ?_
  rintro e w1 ⟨rfl, hbb⟩
  have B := Lib.hid hbb
  clear hbb AL
  go_wp2_with fail
  refine (G1.out _ B.out).mono ?_
  rintro e w1' ⟨rfl, rfl⟩
  clear G1
  go_wp2_with fail
  refine (N.out _ B.out).mono ?_
  intro e w2 hout
  obtain ⟨A3, c3, rfl, hown, hbb⟩ := hout.is rfl rfl HL.out
  have B := Lib.hid (B.out.trans (hbb.mono B.out.size))
  have X := Lib.hid (Texts.of_own hown)
  rcases own_ways hown with ⟨_, h0, _⟩ | ⟨gx, rfl⟩
  · exact absurd h0 (by omega)
  have hcx := X.out.cap
  have hcm := X.out.max
  unfold maxLen at hcm
  have hc1 : (n : Int) ≤ (c3 : Int) := by omega
  have hc2 : ((n : Int) + 1) ≤ (c3 : Int) := by omega
  clear hout hbb N hown
  have SX := Lib.hid (fun wx (hx : Below w2.heap.size w2 wx) => sameAll_any _ n c3 (L.take n) A n c q wx ((X.out.below hx).pre (by omega)) (TQ.out.below (B.out.trans (hx.mono B.out.size))))
  rw [HTK.out, show decide (q = q) = true from decide_eq_true rfl] at SX
  go_wp2_with fail
  refine (SX.out _ (Below.refl _ _)).mono ?_
  rintro e w3 ⟨rfl, r, hr⟩
  have hbb : Below w2.heap.size w2 w3 := by rw [hr]; exact below_drewN (Below.refl _ _) r
  have B := Lib.hid (B.out.trans (hbb.mono B.out.size))
  have X := Lib.hid (X.out.below hbb)
  clear SX hr hbb
  go_wp2_with fail
  refine (CX.out _ c3 w3 X.out (TB.out.below B.out)).mono ?_
  rintro e w4 ⟨rfl, r, hr⟩
  have hbb : Below w3.heap.size w3 w4 := by rw [hr]; exact below_drewN (Below.refl _ _) r
  have B := Lib.hid (B.out.trans (hbb.mono B.out.size))
  have X := Lib.hid (X.out.below hbb)
  clear CX hr hbb
  go_wp2_with fail
  refine (CQ.out w4 (TQ.out.below B.out) (TB.out.below B.out)).mono ?_
  rintro e w5 ⟨rfl, r, hr⟩
  have hbb : Below w4.heap.size w4 w5 := by rw [hr]; exact below_drewN (Below.refl _ _) r
  have B := Lib.hid (B.out.trans (hbb.mono B.out.size))
  have X := Lib.hid (X.out.below hbb)
  clear CQ hr hbb
  have N1 := Lib.hid (fun wx (hx : Below w5.heap.size w5 wx) => PP.out.take _ (n + 1) c3 L i wx (X.out.below hx) HSM.out)
  have N2 := Lib.hid (fun wx (hx : Below w5.heap.size w5 wx) => PP.out.twice _ (n + 1) c3 L i wx (X.out.below hx) HSM.out)
  clear TQ TB HBY PP
  by_cases hE : ntE2 L i = 0
  rotate_left
  · have e1 : ntE2 L i = 2 := by
      have hE' := hE
      unfold ntE2 at hE ⊢
      rw [if_neg (by have := HL.out; omega)] at hE ⊢
      split at hE
      · rename_i h; rw [if_pos h]
      · exact absurd rfl hE
    have e2 : tkL L i = [] := if_neg (by rw [e1]; decide)
    have e3 : tkB L i = [] := if_neg (by rw [e1]; decide)
    have e4 : twL L i = [] := if_neg (by rw [e1]; decide)
    have hor : i < 0 ∨ ((n : Int) + 1) ≤ i := by
      have hE' := hE
      unfold ntE2 at hE'
      rw [if_neg (by have := HL.out; omega)] at hE'
      split at hE'
      · rename_i h; have := HL.out; omega
      · exact absurd rfl hE'
    clear hE
    go_wp2_with fail
    refine (N1.out _ (Below.refl _ _)).mono ?_
    intro e w6 hout
    obtain ⟨A5, c5, A6, c6, rfl, _, _, hbb⟩ := hout.is e2 e3 e1 rfl rfl
    have B := Lib.hid (B.out.trans (hbb.mono B.out.size))
    have B6 := Lib.hid hbb
    clear hout hbb N1 e2 e3
    go_wp2_with fail
    refine (N2.out _ B6.out).mono ?_
    intro e w7 hout
    obtain ⟨A7, c7, rfl, _, _, hbb⟩ := hout.is e4 e1 rfl
    have B := Lib.hid (B.out.trans (hbb.mono B.out.size))
    clear hout hbb N2 B6 e4 e1
    by_cases hi0 : i < 0
    · clear hor
      go_wp2
      go_ret
      exact ⟨rfl, B.out⟩
    · have hi1 : ((n : Int) + 1) ≤ i := by omega
      clear hor
      go_wp2
      go_ret
      exact ⟨rfl, B.out⟩
  obtain ⟨_, k, rfl, hk⟩ := ntE2_zero hE
  have hkm : k < (n + 1) := by have := HL.out; omega
  have e2 : tkL L (k : Int) = L.eraseIdx k := by unfold tkL; rw [if_pos hE]; rfl
  have e3 : tkB L (k : Int) = L.getD k [] := by unfold tkB; rw [if_pos hE]; rfl
  have e4 : twL L (k : Int) = sentN L (L.getD k []) := by unfold twL; rw [if_pos hE]; rfl
  obtain ⟨x1, x2, x3⟩ := erase_ends hk
  rw [HL.out] at x3
  have X1 := Lib.hid x1
  have X2 := Lib.hid x2
  have X3 := Lib.hid (show (L.eraseIdx k).length = n from x3)
  have HE := Lib.hid hE
  obtain ⟨t0, ht0⟩ : ∃ x, x = L.getD k [] := ⟨_, rfl⟩
  obtain ⟨mb, hmb⟩ : ∃ x, x = t0.length := ⟨_, rfl⟩
  rw [← ht0] at e3 e4
  have HT0 := Lib.hid ht0
  have HMB := Lib.hid hmb
  have E3 := Lib.hid e3
  have E2 := Lib.hid e2
  clear x1 x2 x3 hE hk ht0 hmb e3 e2
  go_wp2_with fail
  refine (N1.out _ (Below.refl _ _)).mono ?_
  intro e w6 hout
  obtain ⟨A5, c5, A6, c6, rfl, hown, hrow, hbb⟩ := hout.is E2.out E3.out HE.out X3.out HMB.out.symm
  have B := Lib.hid (B.out.trans (hbb.mono B.out.size))
  have B6 := Lib.hid hbb
  have X := Lib.hid (X.out.below hbb)
  have P := Lib.hid (Texts.of_own hown)
  have C := Lib.hid (Arg.own hrow)
  have PW := Lib.hid (own_ways hown)
  clear hout hbb N1 hown hrow E2 E3
  go_wp2_with fail
  refine (N2.out _ B6.out).mono ?_
  intro e w7 hout
  have HO := Lib.hid hout
  clear hout N2 B6
  have hw3 : IntKind.i64.wrap ((k : Int) + 1) = (k : Int) + 1 := Lib.wrap_i64_small (k + 1) (by omega)
  have i1 : ¬ (k : Int) < 0 := by omega
  have i2 : ¬ ((n : Int) + 1) ≤ (k : Int) := by omega
  have i3 : (k : Int) < ((n : Int) + 1) := by omega
  by_cases h64 : n + 1 < 64
  · have hn64 : ((n : Int) + 1 == 64) = false := beq_eq_false_iff_ne.2 (by omega)
    have e5 : sentN L t0 = L ++ [t0] := by unfold sentN; rw [if_pos (by have := HL.out; omega)]
    have l5 : (L ++ [t0]).length = n + 1 + 1 := by rw [List.length_append, HL.out]; rfl
    have k5 : (L ++ [t0]).take (n + 1) = L := by rw [List.take_append_of_le_length (by have := HL.out; omega), List.take_of_length_le (by have := HL.out; omega)]
    have g5 : (L ++ [t0]).getD (n + 1) [] = t0 := by rw [List.getD_eq_getElem?_getD, List.getElem?_append_right (by have := HL.out; omega), HL.out, Nat.sub_self]; rfl
    rw [e5] at e4
    have hout := HO.out
    obtain ⟨A7, c7, rfl, hown, _, hbb⟩ := hout.is e4 HE.out l5
    have B := Lib.hid (B.out.trans (hbb.mono B.out.size))
    have X := Lib.hid (X.out.below hbb)
    have P := Lib.hid (P.out.below hbb)
    have C := Lib.hid (C.out.below hbb)
    have T := Lib.hid (Texts.of_own hown)
    have K5 := Lib.hid k5
    have G5 := Lib.hid g5
    clear hout HO hbb hown e4 e5 l5 k5 g5 h64
    have hc7 := T.out.cap
    have hm7 := T.out.max
    unfold maxLen at hm7
    have hcp := P.out.cap
    have hmp := P.out.max
    unfold maxLen at hmp
    have j1 : (n : Int) + 1 ≤ (c7 : Int) := by omega
    have j2 : IntKind.i64.wrap ((n : Int) + 1 - 1) = (n : Int) := by rw [Int.add_sub_cancel]; exact Lib.wrap_i64_small n (by omega)
    have j2' : IntKind.i64.wrap (n : Int) = (n : Int) := Lib.wrap_i64_small n (by omega)
    have j7 : ((n : Int) != (n : Int)) = false := bne_self_eq_false _
    have j3 : ¬ (n : Int) + 1 + 1 < (n : Int) + 1 := by omega
    have j4 : IntKind.i64.wrap ((n : Int) + 1 + 1) = (n : Int) + 1 + 1 := Lib.wrap_i64_small (n + 1 + 1) (by omega)
    have j5 : ((n : Int) + 1 + 1 == (n : Int) + 1) = false := beq_eq_false_iff_ne.2 (by omega)
    have j6 : (n : Int) + 1 < (n : Int) + 1 + 1 := by omega
    have p1 : (k : Int) ≤ (c5 : Int) := by omega
    have p2 : (k : Int) ≤ (c3 : Int) := by omega
    have p0 : (0 : Int) ≤ (k : Int) + 1 := by omega
    have p3 : (k : Int) + 1 ≤ (c3 : Int) := by omega
    have p4 : (k : Int) ≤ (n : Int) := by omega
    have p5 : (k : Int) + 1 ≤ (n : Int) + 1 := by omega
    have p6 : (n : Int) ≤ (c5 : Int) := by omega
    have p7 : (n : Int) + 1 ≤ (c3 : Int) := by omega
    obtain ⟨bx, ox, Ax, nx, cx, ex, hltx, hcell, hax⟩ := X.out.at_ k (by omega)
    injection ex with ex; injection ex with ex1 ex2; subst ex1; subst ex2
    rw [← HT0.out] at hax
    have st1 := fun r => run_str (P := Try.prog) (w7.drewN r) 26 9 5 Try.underlying26 Try.underlying5 Try.underlying9 (c := c6) (C.out.seq.keep (w' := w7.drewN r) fun _ _ => rfl) C.out.len
    have st2 := fun r => run_str (P := Try.prog) (w7.drewN r) 26 9 5 Try.underlying26 Try.underlying5 Try.underlying9 (c := cx) (hax.seq.keep (w' := w7.drewN r) fun _ _ => rfl) hax.len
    obtain ⟨st, hst0⟩ : ∃ x, x = strOfNums t0 := ⟨_, rfl⟩
    rw [← hst0] at st1 st2
    have HST := Lib.hid hst0
    have hst : (st.toList != st.toList) = false := bne_self_eq_false _
    have hst' : (st.toList == st.toList) = true := beq_self_eq_true _
    rw [Nat.zero_add] at hcell
    have Q1 := Lib.hid (fun r => sameAll_any A5 k c5 _ (some ⟨gx, 0, none⟩) k c3 _ (w7.drewN r) ((P.out.below (below_drewN (Below.refl _ _) r)).pre (k := k) (by omega)) ((X.out.below (below_drewN (Below.refl _ _) r)).pre (k := k) (by omega)))
    rw [X1.out, show decide (L.take k = L.take k) = true from decide_eq_true rfl] at Q1
    have Q2 := Lib.hid (fun r => (by have h := ((X.out.below (below_drewN (Below.refl w7.heap.size w7) r)).post (k := k + 1) (by omega)); rw [show (n + 1) - (k + 1) = n - k from by omega] at h; exact h : Texts (w7.drewN r) (if c3 = k + 1 then some ⟨gx, 0, none⟩ else some ⟨gx, k + 1, none⟩) (n - k) (c3 - (k + 1)) (L.drop (k + 1))))
    clear hst0 hax hltx HT0 hcx hc7 hm7 hcp hmp
    rcases PW.out with ⟨rfl, hz1, hz2⟩ | ⟨gp, rfl⟩
    · obtain rfl : k = 0 := by omega
      subst hz2
      subst hz1
      have Q3 := Lib.hid (fun r => sameAll_any none 0 0 [] _ _ _ _ (w7.drewN r) (Texts.nil _) (Q2.out r))
      have hd : L.drop 1 = [] := List.drop_of_length_le (by have := HL.out; omega)
      rw [hd, show decide (([] : List Text) = []) = true from decide_eq_true rfl] at Q3
      clear Q2 PW
      go_upto_region 16 with fail
      go_quiet ((first | (go_at_call 16; (with_reducible exact Calls.quiet_of (Q1.out _))) | (go_at_call 16; (with_reducible exact Calls.quiet_of (Q3.out _)))))
      obtain ⟨w8, hw8⟩ : ∃ x : World, x = w7.drewN nq := ⟨_, rfl⟩
      have h78 : Below w7.heap.size w7 w8 := by rw [hw8]; exact below_drewN (Below.refl _ _) nq
      have B := Lib.hid (B.out.trans (h78.mono B.out.size))
      have X := Lib.hid (X.out.below h78)
      have T := Lib.hid (T.out.below h78)
      have C := Lib.hid (C.out.below h78)
      clear Q1 Q3 st1 st2 h78 hcell X1 X2
      have Q5 := Lib.hid (fun r => sameAll_any A7 (0 + 1) c7 _ (some ⟨gx, 0, none⟩) (0 + 1) c3 _ (w8.drewN r) ((T.out.below (below_drewN (Below.refl _ _) r)).pre (k := 0 + 1) (by omega)) (X.out.below (below_drewN (Below.refl _ _) r)))
      rw [K5.out, show decide (L = L) = true from decide_eq_true rfl] at Q5
      obtain ⟨bt, ot, At, nt, ct, rfl, _, hct, hat⟩ := T.out.at_ (0 + 1) (by omega)
      rw [G5.out] at hat
      have st1 := fun r => run_str (P := Try.prog) (w8.drewN r) 26 9 5 Try.underlying26 Try.underlying5 Try.underlying9 (c := c6) (C.out.seq.keep (w' := w8.drewN r) fun _ _ => rfl) C.out.len
      have st2 := fun r => run_str (P := Try.prog) (w8.drewN r) 26 9 5 Try.underlying26 Try.underlying5 Try.underlying9 (c := ct) (hat.seq.keep (w' := w8.drewN r) fun _ _ => rfl) hat.len
      rw [← HST.out] at st1 st2
      clear hat
      rw [← hw8]
      clear hw8
      go_upto_region 18 with fail
      go_quiet ((first | (go_at_call 16; (with_reducible exact Calls.quiet_of (Q5.out _)))))
      have BF := Lib.hid (show Below w.heap.size w (w8.drewN nq) from below_drewN B.out nq)
      go_wp2
      all_goals (
        go_ret
        exact ⟨rfl, BF.out⟩)
    · have Q3 := Lib.hid (fun r => sameAll_any _ _ _ _ _ _ _ _ (w7.drewN r) ((P.out.below (below_drewN (Below.refl w7.heap.size w7) r)).post (k := k) (by omega)) (Q2.out r))
      rw [X2.out, show decide (L.drop (k + 1) = L.drop (k + 1)) = true from decide_eq_true rfl] at Q3
      clear Q2 PW
      go_upto_region 16 with fail
      go_quiet ((first | (go_at_call 16; (with_reducible exact Calls.quiet_of (Q1.out _))) | (go_at_call 16; (with_reducible exact Calls.quiet_of (Q3.out _)))))
      obtain ⟨w8, hw8⟩ : ∃ x : World, x = w7.drewN nq := ⟨_, rfl⟩
      have h78 : Below w7.heap.size w7 w8 := by rw [hw8]; exact below_drewN (Below.refl _ _) nq
      have B := Lib.hid (B.out.trans (h78.mono B.out.size))
      have X := Lib.hid (X.out.below h78)
      have T := Lib.hid (T.out.below h78)
      have C := Lib.hid (C.out.below h78)
      clear Q1 Q3 st1 st2 h78 hcell X1 X2
      have Q5 := Lib.hid (fun r => sameAll_any A7 (n + 1) c7 _ (some ⟨gx, 0, none⟩) (n + 1) c3 _ (w8.drewN r) ((T.out.below (below_drewN (Below.refl _ _) r)).pre (k := n + 1) (by omega)) (X.out.below (below_drewN (Below.refl _ _) r)))
      rw [K5.out, show decide (L = L) = true from decide_eq_true rfl] at Q5
      obtain ⟨bt, ot, At, nt, ct, rfl, _, hct, hat⟩ := T.out.at_ (n + 1) (by omega)
      rw [G5.out] at hat
      have st1 := fun r => run_str (P := Try.prog) (w8.drewN r) 26 9 5 Try.underlying26 Try.underlying5 Try.underlying9 (c := c6) (C.out.seq.keep (w' := w8.drewN r) fun _ _ => rfl) C.out.len
      have st2 := fun r => run_str (P := Try.prog) (w8.drewN r) 26 9 5 Try.underlying26 Try.underlying5 Try.underlying9 (c := ct) (hat.seq.keep (w' := w8.drewN r) fun _ _ => rfl) hat.len
      rw [← HST.out] at st1 st2
      clear hat
      rw [← hw8]
      clear hw8
      go_upto_region 18 with fail
      go_quiet ((first | (go_at_call 16; (with_reducible exact Calls.quiet_of (Q5.out _)))))
      have BF := Lib.hid (show Below w.heap.size w (w8.drewN nq) from below_drewN B.out nq)
      go_wp2
      all_goals (
        go_ret
        exact ⟨rfl, BF.out⟩)
  · obtain rfl : n = 63 := by omega
    have e5 : sentN L t0 = L := by unfold sentN; rw [if_neg (by have := HL.out; omega)]
    have l5 : L.length = 64 := HL.out
    have k5 : L.take 64 = L := List.take_of_length_le (by have := HL.out; omega)
    rw [e5] at e4
    have hout := HO.out
    obtain ⟨A7, c7, rfl, hown, _, hbb⟩ := hout.is e4 HE.out l5
    have B := Lib.hid (B.out.trans (hbb.mono B.out.size))
    have X := Lib.hid (X.out.below hbb)
    have P := Lib.hid (P.out.below hbb)
    have C := Lib.hid (C.out.below hbb)
    have T := Lib.hid (Texts.of_own hown)
    have K5 := Lib.hid k5
    clear hout HO hbb hown e4 e5 l5 k5 h64
    have hc7 := T.out.cap
    have hm7 := T.out.max
    unfold maxLen at hm7
    have hcp := P.out.cap
    have hmp := P.out.max
    unfold maxLen at hmp
    have j1 : (64 : Int) ≤ (c7 : Int) := by omega
    have j2 : IntKind.i64.wrap (64 - 1) = 63 := by decide
    have j2' : IntKind.i64.wrap 63 = 63 := by decide
    have j8 : ¬ (64 : Int) ≤ (k : Int) := by omega
    have j9 : (k : Int) < 64 := by omega
    have p1 : (k : Int) ≤ (c5 : Int) := by omega
    have p2 : (k : Int) ≤ (c3 : Int) := by omega
    have p0 : (0 : Int) ≤ (k : Int) + 1 := by omega
    have p3 : (k : Int) + 1 ≤ (c3 : Int) := by omega
    have p4 : (k : Int) ≤ 63 := by omega
    have p5 : (k : Int) + 1 ≤ 64 := by omega
    have p6 : 63 ≤ (c5 : Int) := by omega
    have p7 : 64 ≤ (c3 : Int) := by omega
    obtain ⟨bx, ox, Ax, nx, cx, ex, hltx, hcell, hax⟩ := X.out.at_ k (by omega)
    injection ex with ex; injection ex with ex1 ex2; subst ex1; subst ex2
    rw [← HT0.out] at hax
    have st1 := fun r => run_str (P := Try.prog) (w7.drewN r) 26 9 5 Try.underlying26 Try.underlying5 Try.underlying9 (c := c6) (C.out.seq.keep (w' := w7.drewN r) fun _ _ => rfl) C.out.len
    have st2 := fun r => run_str (P := Try.prog) (w7.drewN r) 26 9 5 Try.underlying26 Try.underlying5 Try.underlying9 (c := cx) (hax.seq.keep (w' := w7.drewN r) fun _ _ => rfl) hax.len
    obtain ⟨st, hst0⟩ : ∃ x, x = strOfNums t0 := ⟨_, rfl⟩
    rw [← hst0] at st1 st2
    have HST := Lib.hid hst0
    have hst : (st.toList != st.toList) = false := bne_self_eq_false _
    have hst' : (st.toList == st.toList) = true := beq_self_eq_true _
    rw [Nat.zero_add] at hcell
    have Q1 := Lib.hid (fun r => sameAll_any A5 k c5 _ (some ⟨gx, 0, none⟩) k c3 _ (w7.drewN r) ((P.out.below (below_drewN (Below.refl _ _) r)).pre (k := k) (by omega)) ((X.out.below (below_drewN (Below.refl _ _) r)).pre (k := k) (by omega)))
    rw [X1.out, show decide (L.take k = L.take k) = true from decide_eq_true rfl] at Q1
    have Q2 := Lib.hid (fun r => (by have h := ((X.out.below (below_drewN (Below.refl w7.heap.size w7) r)).post (k := k + 1) (by omega)); rw [show (63 + 1) - (k + 1) = 63 - k from by omega] at h; exact h : Texts (w7.drewN r) (if c3 = k + 1 then some ⟨gx, 0, none⟩ else some ⟨gx, k + 1, none⟩) (63 - k) (c3 - (k + 1)) (L.drop (k + 1))))
    clear hst0 hax hltx HT0 hcx hc7 hm7 hcp hmp
    rcases PW.out with ⟨rfl, hz1, hz2⟩ | ⟨gp, rfl⟩
    · exact absurd hz1 (by decide)
    · have Q3 := Lib.hid (fun r => sameAll_any _ _ _ _ _ _ _ _ (w7.drewN r) ((P.out.below (below_drewN (Below.refl w7.heap.size w7) r)).post (k := k) (by omega)) (Q2.out r))
      rw [X2.out, show decide (L.drop (k + 1) = L.drop (k + 1)) = true from decide_eq_true rfl] at Q3
      clear Q2 PW
      go_upto_region 16 with fail
      go_quiet ((first | (go_at_call 16; (with_reducible exact Calls.quiet_of (Q1.out _))) | (go_at_call 16; (with_reducible exact Calls.quiet_of (Q3.out _)))))
      obtain ⟨w8, hw8⟩ : ∃ x : World, x = w7.drewN nq := ⟨_, rfl⟩
      have h78 : Below w7.heap.size w7 w8 := by rw [hw8]; exact below_drewN (Below.refl _ _) nq
      have B := Lib.hid (B.out.trans (h78.mono B.out.size))
      have X := Lib.hid (X.out.below h78)
      have T := Lib.hid (T.out.below h78)
      have C := Lib.hid (C.out.below h78)
      clear Q1 Q3 st1 st2 h78 hcell X1 X2
      have Q5 := Lib.hid (fun r => sameAll_any A7 (64) c7 _ (some ⟨gx, 0, none⟩) (64) c3 _ (w8.drewN r) ((T.out.below (below_drewN (Below.refl _ _) r)).pre (k := 64) (by omega)) (X.out.below (below_drewN (Below.refl _ _) r)))
      rw [K5.out, show decide (L = L) = true from decide_eq_true rfl] at Q5
      rw [← hw8]
      clear hw8
      go_upto_region 18 with fail
      go_quiet ((first | (go_at_call 16; (with_reducible exact Calls.quiet_of (Q5.out _)))))
      have BF := Lib.hid (show Below w.heap.size w (w8.drewN nq) from below_drewN B.out nq)
      go_wp2
      all_goals (
        go_ret
        exact ⟨rfl, BF.out⟩)

set_option maxHeartbeats 12800000 in
theorem keeps16_full (ND : NetDoes) (A : Option Addr) (n c : Nat) (q : List Text) (Ab : Option Addr) (nb cb : Nat) (b : Text) (i : Int) (w : World) (hq : Texts w A n c q) (hb : Arg w .u8 Ab nb cb b) (hby : ∀ z ∈ b, isByte z) (h1 : greatB q = false) (h3 : nb ≤ 200) (hcase : n = 64) :
    Calls Try.prog 5 #[.slice A n c, .slice Ab nb cb, .int .i64 i] w fun e w' => e = .returned (.bool true) ∧ Below w.heap.size w w' := by
  subst hcase
  have AL := Lib.hid (alive16_of ND w)
  have G1 := Lib.hid (fun wx (hx : Below w.heap.size w wx) => great16_any A 64 c q wx (hq.below hx))
  rw [h1] at G1
  have hs := small_of h1
  have hl := hq.len
  have h3i : ¬ (200 : Int) < (nb : Int) := by omega
  have HS := Lib.hid hs
  have TQ := Lib.hid hq
  have TB := Lib.hid hb
  have HBY := Lib.hid hby
  have PP := Lib.hid ND
  have e1 : ntE q = 0 := if_neg (by omega)
  obtain ⟨L, hLd⟩ : ∃ x, x = q := ⟨_, rfl⟩
  have e2 : sdL q b = L := by rw [hLd]; unfold sdL sentN; rw [if_neg (by omega), if_neg (by omega)]
  have cnt : countN L b 64 = countN q b 64 := by rw [hLd]
  have hL : L.length = 64 := by rw [hLd]; exact hl
  have htk : L.take 64 = q := by rw [hLd]; exact List.take_of_length_le (by omega)
  have hsm : Small L := by rw [hLd]; exact hs
  have cle := countN_le q b 64
  have N := Lib.hid (fun wx (hx : Below w.heap.size w wx) => ND.send A 64 c q Ab nb cb b wx (hq.below hx) hs (hb.below hx) hby h3)
  rw [e1, e2] at N
  obtain ⟨cn, hcn⟩ : ∃ x, x = countN q b 64 := ⟨_, rfl⟩
  have CQ := Lib.hid (fun (wx : World) hx1 hx2 => count16_any A 64 c q Ab nb cb b wx hx1 hx2 hby (by omega))
  rw [← hcn] at CQ
  have CX := Lib.hid (fun (Ax : Option Addr) (kx : Nat) (wx : World) hx1 hx2 => count16_any Ax (64) kx L Ab nb cb b wx hx1 hx2 hby (by omega))
  rw [cnt, ← hcn] at CX
  have hcl : cn ≤ 100 := by omega
  have hw2 : IntKind.i64.wrap ((cn : Int)) = (cn : Int) := Lib.wrap_i64_small (cn) (by omega)
  have HL := Lib.hid hL
  have HTK := Lib.hid htk
  have HSM := Lib.hid hsm
  clear hs hl hq hb hby h1 ND e1 e2 cnt cle hcn hLd hL htk hsm
  go_enter Try.func5, Try.ntmps5
  go_wp2_with fail
  refine AL.out.mono ?_
  rintro e w1 ⟨rfl, hbb⟩
  have B := Lib.hid hbb
  clear hbb AL
  go_wp2_with fail
  refine (G1.out _ B.out).mono ?_
  rintro e w1' ⟨rfl, rfl⟩
  clear G1
  go_wp2_with fail
  refine (N.out _ B.out).mono ?_
  intro e w2 hout
  obtain ⟨A3, c3, rfl, hown, hbb⟩ := hout.is rfl rfl HL.out
  have B := Lib.hid (B.out.trans (hbb.mono B.out.size))
  have X := Lib.hid (Texts.of_own hown)
  rcases own_ways hown with ⟨_, h0, _⟩ | ⟨gx, rfl⟩
  · exact absurd h0 (by omega)
  have hcx := X.out.cap
  have hcm := X.out.max
  unfold maxLen at hcm
  have hc1 : (64 : Int) ≤ (c3 : Int) := by omega
  clear hout hbb N hown
  have SX := Lib.hid (fun wx (hx : Below w2.heap.size w2 wx) => sameAll_any _ 64 c3 (L.take 64) A 64 c q wx ((X.out.below hx).pre (by omega)) (TQ.out.below (B.out.trans (hx.mono B.out.size))))
  rw [HTK.out, show decide (q = q) = true from decide_eq_true rfl] at SX
  go_wp2_with fail
  refine (SX.out _ (Below.refl _ _)).mono ?_
  rintro e w3 ⟨rfl, r, hr⟩
  have hbb : Below w2.heap.size w2 w3 := by rw [hr]; exact below_drewN (Below.refl _ _) r
  have B := Lib.hid (B.out.trans (hbb.mono B.out.size))
  have X := Lib.hid (X.out.below hbb)
  clear SX hr hbb
  go_wp2_with fail
  refine (CX.out _ c3 w3 X.out (TB.out.below B.out)).mono ?_
  rintro e w4 ⟨rfl, r, hr⟩
  have hbb : Below w3.heap.size w3 w4 := by rw [hr]; exact below_drewN (Below.refl _ _) r
  have B := Lib.hid (B.out.trans (hbb.mono B.out.size))
  have X := Lib.hid (X.out.below hbb)
  clear CX hr hbb
  go_wp2_with fail
  refine (CQ.out w4 (TQ.out.below B.out) (TB.out.below B.out)).mono ?_
  rintro e w5 ⟨rfl, r, hr⟩
  have hbb : Below w4.heap.size w4 w5 := by rw [hr]; exact below_drewN (Below.refl _ _) r
  have B := Lib.hid (B.out.trans (hbb.mono B.out.size))
  have X := Lib.hid (X.out.below hbb)
  clear CQ hr hbb
  have N1 := Lib.hid (fun wx (hx : Below w5.heap.size w5 wx) => PP.out.take _ 64 c3 L i wx (X.out.below hx) HSM.out)
  have N2 := Lib.hid (fun wx (hx : Below w5.heap.size w5 wx) => PP.out.twice _ 64 c3 L i wx (X.out.below hx) HSM.out)
  clear TQ TB HBY PP
  by_cases hE : ntE2 L i = 0
  rotate_left
  · have e1 : ntE2 L i = 2 := by
      have hE' := hE
      unfold ntE2 at hE ⊢
      rw [if_neg (by have := HL.out; omega)] at hE ⊢
      split at hE
      · rename_i h; rw [if_pos h]
      · exact absurd rfl hE
    have e2 : tkL L i = [] := if_neg (by rw [e1]; decide)
    have e3 : tkB L i = [] := if_neg (by rw [e1]; decide)
    have e4 : twL L i = [] := if_neg (by rw [e1]; decide)
    have hor : i < 0 ∨ 64 ≤ i := by
      have hE' := hE
      unfold ntE2 at hE'
      rw [if_neg (by have := HL.out; omega)] at hE'
      split at hE'
      · rename_i h; have := HL.out; omega
      · exact absurd rfl hE'
    clear hE
    go_wp2_with fail
    refine (N1.out _ (Below.refl _ _)).mono ?_
    intro e w6 hout
    obtain ⟨A5, c5, A6, c6, rfl, _, _, hbb⟩ := hout.is e2 e3 e1 rfl rfl
    have B := Lib.hid (B.out.trans (hbb.mono B.out.size))
    have B6 := Lib.hid hbb
    clear hout hbb N1 e2 e3
    go_wp2_with fail
    refine (N2.out _ B6.out).mono ?_
    intro e w7 hout
    obtain ⟨A7, c7, rfl, _, _, hbb⟩ := hout.is e4 e1 rfl
    have B := Lib.hid (B.out.trans (hbb.mono B.out.size))
    clear hout hbb N2 B6 e4 e1
    by_cases hi0 : i < 0
    · clear hor
      go_wp2
      go_ret
      exact ⟨rfl, B.out⟩
    · have hi1 : 64 ≤ i := by omega
      clear hor
      go_wp2
      go_ret
      exact ⟨rfl, B.out⟩
  obtain ⟨_, k, rfl, hk⟩ := ntE2_zero hE
  have hkm : k < 64 := by have := HL.out; omega
  have e2 : tkL L (k : Int) = L.eraseIdx k := by unfold tkL; rw [if_pos hE]; rfl
  have e3 : tkB L (k : Int) = L.getD k [] := by unfold tkB; rw [if_pos hE]; rfl
  have e4 : twL L (k : Int) = sentN L (L.getD k []) := by unfold twL; rw [if_pos hE]; rfl
  obtain ⟨x1, x2, x3⟩ := erase_ends hk
  rw [HL.out] at x3
  have X1 := Lib.hid x1
  have X2 := Lib.hid x2
  have X3 := Lib.hid (show (L.eraseIdx k).length = 63 from x3)
  have HE := Lib.hid hE
  obtain ⟨t0, ht0⟩ : ∃ x, x = L.getD k [] := ⟨_, rfl⟩
  obtain ⟨mb, hmb⟩ : ∃ x, x = t0.length := ⟨_, rfl⟩
  rw [← ht0] at e3 e4
  have HT0 := Lib.hid ht0
  have HMB := Lib.hid hmb
  have E3 := Lib.hid e3
  have E2 := Lib.hid e2
  clear x1 x2 x3 hE hk ht0 hmb e3 e2
  go_wp2_with fail
  refine (N1.out _ (Below.refl _ _)).mono ?_
  intro e w6 hout
  obtain ⟨A5, c5, A6, c6, rfl, hown, hrow, hbb⟩ := hout.is E2.out E3.out HE.out X3.out HMB.out.symm
  have B := Lib.hid (B.out.trans (hbb.mono B.out.size))
  have B6 := Lib.hid hbb
  have X := Lib.hid (X.out.below hbb)
  have P := Lib.hid (Texts.of_own hown)
  have C := Lib.hid (Arg.own hrow)
  have PW := Lib.hid (own_ways hown)
  clear hout hbb N1 hown hrow E2 E3
  go_wp2_with fail
  refine (N2.out _ B6.out).mono ?_
  intro e w7 hout
  have HO := Lib.hid hout
  clear hout N2 B6
  have hw3 : IntKind.i64.wrap ((k : Int) + 1) = (k : Int) + 1 := Lib.wrap_i64_small (k + 1) (by omega)
  have i1 : ¬ (k : Int) < 0 := by omega
  have i2 : ¬ 64 ≤ (k : Int) := by omega
  have i3 : (k : Int) < 64 := by omega
  have e5 : sentN L t0 = L := by unfold sentN; rw [if_neg (by have := HL.out; omega)]
  have l5 : L.length = 64 := HL.out
  have k5 : L.take 64 = L := List.take_of_length_le (by have := HL.out; omega)
  rw [e5] at e4
  have hout := HO.out
  obtain ⟨A7, c7, rfl, hown, _, hbb⟩ := hout.is e4 HE.out l5
  have B := Lib.hid (B.out.trans (hbb.mono B.out.size))
  have X := Lib.hid (X.out.below hbb)
  have P := Lib.hid (P.out.below hbb)
  have C := Lib.hid (C.out.below hbb)
  have T := Lib.hid (Texts.of_own hown)
  have K5 := Lib.hid k5
  clear hout HO hbb hown e4 e5 l5 k5
  have hc7 := T.out.cap
  have hm7 := T.out.max
  unfold maxLen at hm7
  have hcp := P.out.cap
  have hmp := P.out.max
  unfold maxLen at hmp
  have j1 : (64 : Int) ≤ (c7 : Int) := by omega
  have j2 : IntKind.i64.wrap (64 - 1) = 63 := by decide
  have j2' : IntKind.i64.wrap 63 = 63 := by decide
  have j8 : ¬ (64 : Int) ≤ (k : Int) := by omega
  have j9 : (k : Int) < 64 := by omega
  have p1 : (k : Int) ≤ (c5 : Int) := by omega
  have p2 : (k : Int) ≤ (c3 : Int) := by omega
  have p0 : (0 : Int) ≤ (k : Int) + 1 := by omega
  have p3 : (k : Int) + 1 ≤ (c3 : Int) := by omega
  have p4 : (k : Int) ≤ 63 := by omega
  have p5 : (k : Int) + 1 ≤ 64 := by omega
  have p6 : 63 ≤ (c5 : Int) := by omega
  have p7 : 64 ≤ (c3 : Int) := by omega
  obtain ⟨bx, ox, Ax, nx, cx, ex, hltx, hcell, hax⟩ := X.out.at_ k (by omega)
  injection ex with ex; injection ex with ex1 ex2; subst ex1; subst ex2
  rw [← HT0.out] at hax
  have st1 := fun r => run_str (P := Try.prog) (w7.drewN r) 26 9 5 Try.underlying26 Try.underlying5 Try.underlying9 (c := c6) (C.out.seq.keep (w' := w7.drewN r) fun _ _ => rfl) C.out.len
  have st2 := fun r => run_str (P := Try.prog) (w7.drewN r) 26 9 5 Try.underlying26 Try.underlying5 Try.underlying9 (c := cx) (hax.seq.keep (w' := w7.drewN r) fun _ _ => rfl) hax.len
  obtain ⟨st, hst0⟩ : ∃ x, x = strOfNums t0 := ⟨_, rfl⟩
  rw [← hst0] at st1 st2
  have HST := Lib.hid hst0
  have hst : (st.toList != st.toList) = false := bne_self_eq_false _
  have hst' : (st.toList == st.toList) = true := beq_self_eq_true _
  rw [Nat.zero_add] at hcell
  have Q1 := Lib.hid (fun r => sameAll_any A5 k c5 _ (some ⟨gx, 0, none⟩) k c3 _ (w7.drewN r) ((P.out.below (below_drewN (Below.refl _ _) r)).pre (k := k) (by omega)) ((X.out.below (below_drewN (Below.refl _ _) r)).pre (k := k) (by omega)))
  rw [X1.out, show decide (L.take k = L.take k) = true from decide_eq_true rfl] at Q1
  have Q2 := Lib.hid (fun r => (by have h := ((X.out.below (below_drewN (Below.refl w7.heap.size w7) r)).post (k := k + 1) (by omega)); rw [show 64 - (k + 1) = 63 - k from by omega] at h; exact h : Texts (w7.drewN r) (if c3 = k + 1 then some ⟨gx, 0, none⟩ else some ⟨gx, k + 1, none⟩) (63 - k) (c3 - (k + 1)) (L.drop (k + 1))))
  clear hst0 hax hltx HT0 hcx hc7 hm7 hcp hmp
  rcases PW.out with ⟨rfl, hz1, hz2⟩ | ⟨gp, rfl⟩
  · exact absurd hz1 (by decide)
  · have Q3 := Lib.hid (fun r => sameAll_any _ _ _ _ _ _ _ _ (w7.drewN r) ((P.out.below (below_drewN (Below.refl w7.heap.size w7) r)).post (k := k) (by omega)) (Q2.out r))
    rw [X2.out, show decide (L.drop (k + 1) = L.drop (k + 1)) = true from decide_eq_true rfl] at Q3
    clear Q2 PW
    go_upto_region 16 with fail
    go_quiet ((first | (go_at_call 16; (with_reducible exact Calls.quiet_of (Q1.out _))) | (go_at_call 16; (with_reducible exact Calls.quiet_of (Q3.out _)))))
    obtain ⟨w8, hw8⟩ : ∃ x : World, x = w7.drewN nq := ⟨_, rfl⟩
    have h78 : Below w7.heap.size w7 w8 := by rw [hw8]; exact below_drewN (Below.refl _ _) nq
    have B := Lib.hid (B.out.trans (h78.mono B.out.size))
    have X := Lib.hid (X.out.below h78)
    have T := Lib.hid (T.out.below h78)
    have C := Lib.hid (C.out.below h78)
    clear Q1 Q3 st1 st2 h78 hcell X1 X2
    have Q5 := Lib.hid (fun r => sameAll_any A7 (64) c7 _ (some ⟨gx, 0, none⟩) (64) c3 _ (w8.drewN r) ((T.out.below (below_drewN (Below.refl _ _) r)).pre (k := 64) (by omega)) (X.out.below (below_drewN (Below.refl _ _) r)))
    rw [K5.out, show decide (L = L) = true from decide_eq_true rfl] at Q5
    rw [← hw8]
    clear hw8
    go_upto_region 18 with fail
    go_quiet ((first | (go_at_call 16; (with_reducible exact Calls.quiet_of (Q5.out _)))))
    have BF := Lib.hid (show Below w.heap.size w (w8.drewN nq) from below_drewN B.out nq)
    go_wp2
    all_goals (
      go_ret
      exact ⟨rfl, BF.out⟩)

theorem keeps16_of (ND : NetDoes) (A : Option Addr) (n c : Nat) (q : List Text) (Ab : Option Addr) (nb cb : Nat) (b : Text) (i : Int) (w : World) (hq : Texts w A n c q) (hb : Arg w .u8 Ab nb cb b) (hby : ∀ z ∈ b, isByte z) :
    Calls Try.prog 5 #[.slice A n c, .slice Ab nb cb, .int .i64 i] w fun e w' => e = .returned (.bool true) ∧ Below w.heap.size w w' := by
  by_cases h : greatB q = true ∨ 200 < nb
  · exact keeps16_great ND A n c q Ab nb cb b i w hq hb hby h
  · have h1 : greatB q = false := by
      cases h1 : greatB q
      · rfl
      · exact absurd (.inl h1) h
    have h3 : nb ≤ 200 := by
      have : ¬ 200 < nb := fun e => h (.inr e)
      omega
    by_cases hm : 64 < n
    · exact keeps16_many ND A n c q Ab nb cb b i w hq hb hby h1 h3 hm
    · by_cases hr : n < 64
      · exact keeps16_room ND A n c q Ab nb cb b i w hq hb hby h1 h3 hr
      · exact keeps16_full ND A n c q Ab nb cb b i w hq hb hby h1 h3 (by omega)

end Go.Proofs.Ytibegaoegpanpaa
