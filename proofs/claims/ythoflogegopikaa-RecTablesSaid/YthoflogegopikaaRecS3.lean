/- Layer 11: the library's sort of few records; the program's sorted. -/
import Derived.Test.YthoflogegopikaaRecS2
namespace Go.Proofs.Ythoflogegopikaa
open Go.RowKit Go.Maps
set_option linter.unusedVariables false

/-- What a sort leaves: the row sorted, and nothing below its base turned. -/
def SortOut (w : World) (base : Nat) (A : Option Addr) (n c : Nat) (L : List Rc) (e : Ending) (w' : World) : Prop := e = .returned (.tuple #[]) ∧ OwnRecs w' base A n c (isoR L n) ∧ Below base w w'
set_option maxRecDepth 100000 in
theorem pins_all (A : Option Addr) (n c base : Nat) (L : List Rc) (w : World) (hown : OwnRecs w base A n c L) (hb : base ≤ w.heap.size) (hn : n ≤ 12) :
    Calls Try.prog 64 #[.slice A n c, .int .i64 0, .int .i64 (n : Int), (.func (.func 55) #[] #[])] w (SortOut w base A n c L) := by
  unfold SortOut
  rcases Nat.eq_zero_or_pos n with h0 | h1
  · subst h0
    have HO := Lib.hid (show OwnRecs w base A 0 c (isoR L 0) from hown)
    clear hown
    rw [show ((0 : Nat) : Int) = 0 from rfl]
    go_enter Try.func64, Try.ntmps64
    go_wp2
    go_loopw [8] (fun i wr => i = .int .i64 1 ∧ wr = w) (fun _ _ => 0)
    case atStart => exact ⟨rfl, rfl⟩
    case round =>
      obtain ⟨rfl, rfl⟩ := hrel
      go_wp2
      first | go_end0 | refine bodyPost_ret (results_none rfl _ _ _) rfl ?_
      exact ⟨rfl, HO.out, Below.refl _ _⟩
  · obtain ⟨g, rfl, hg⟩ : ∃ g, A = some ⟨g, 0, none⟩ ∧ base ≤ g := by
      rcases hown.1.2 with ⟨_, h0⟩ | ⟨g, cap, cur, e, hg, _⟩
      · omega
      · cases e
        exact ⟨g, rfl, hg⟩
    refine (pins_any g n c base L w hown h1 hn).mono ?_
    rintro e w' ⟨rfl, h2, h3⟩
    exact ⟨rfl, h2, (Below.refl _ _).grown h3 hb (fun k hk => by injection hk with hk; omega)⟩
set_option maxRecDepth 100000 in
set_option maxHeartbeats 1600000 in
theorem ppdq_any (A : Option Addr) (n c base : Nat) (L : List Rc) (lim : Int) (w : World) (hown : OwnRecs w base A n c L) (hb : base ≤ w.heap.size) (hn : n ≤ 12) :
    Calls Try.prog 60 #[.slice A n c, .int .i64 0, .int .i64 (n : Int), .int .i64 lim, (.func (.func 55) #[] #[])] w (SortOut w base A n c L) := by
  have P := Lib.hid (pins_all A n c base L w hown hb hn)
  unfold SortOut at P ⊢
  have e1 : IntKind.i64.wrap (n : Int) = (n : Int) := by rw [IntKind.wrap_i64]; omega
  have e2 : (n : Int) ≤ 12 := by omega
  clear hown hb hn
  go_enter Try.func60, Try.ntmps60
  go_wp2
  go_loopw [1, 2, 3] (fun a b l wr => a = .int .i64 0 ∧ b = .int .i64 (n : Int) ∧ l = .int .i64 lim ∧ wr = w) (fun _ _ _ _ => 0)
  case atStart => exact ⟨rfl, rfl, rfl, rfl⟩
  case round =>
    obtain ⟨rfl, rfl, rfl, rfl⟩ := hrel
    go_wp2_with fail
    refine P.out.mono ?_
    rintro e w' ⟨rfl, h2, h3⟩
    have H2 := Lib.hid h2
    have H3 := Lib.hid h3
    clear h2 h3
    go_wp2
    first | go_end0 | refine bodyPost_ret (results_none rfl _ _ _) rfl ?_
    exact ⟨rfl, H2.out, H3.out⟩
theorem psortf_any (A : Option Addr) (n c base : Nat) (L : List Rc) (w : World) (hown : OwnRecs w base A n c L) (hb : base ≤ w.heap.size) (hn : n ≤ 3) :
    Calls Try.prog 54 #[.slice A n c, (.func (.func 55) #[] #[])] w (SortOut w base A n c L) := by
  have P := Lib.hid (fun lim => ppdq_any A n c base L lim w hown hb (by omega))
  have LN := Lib.hid (plen_any n hn w)
  unfold SortOut at P ⊢
  have e1 : IntKind.u64.wrap (n : Int) = (n : Int) := wrapw64 _ (by omega) (by omega)
  clear hown hb hn
  go_enter Try.func54, Try.ntmps54
  go_wp2_with fail
  refine LN.out.mono ?_
  rintro e w1 ⟨⟨k, rfl⟩, rfl⟩
  go_wp2_with fail
  refine (P.out _).mono ?_
  rintro e w' ⟨rfl, h2, h3⟩
  have H2 := Lib.hid h2
  have H3 := Lib.hid h3
  clear h2 h3
  go_wp2
  first | go_end0 | refine bodyPost_ret (results_none rfl _ _ _) rfl ?_
  exact ⟨rfl, H2.out, H3.out⟩

end Go.Proofs.Ythoflogegopikaa
