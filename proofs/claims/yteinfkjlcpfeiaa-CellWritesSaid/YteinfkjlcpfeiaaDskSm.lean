/- Layer 5: small disks: one of their texts. Nothing of the program. -/
import Derived.Test.YteinfkjlcpfeiaaDiskMath
namespace Go.Proofs.Yteinfkjlcpfeiaa
theorem SmallD.sec_len {S : List Sec} {C : List Pnd} (h : SmallD S C) (k : Nat) : (S.getD k (false, [])).2.length ≤ 100 := by
  rcases Nat.lt_or_ge k S.length with hk | hk
  · rw [List.getD_eq_getElem?_getD, List.getElem?_eq_getElem hk, Option.getD_some]
    exact h.long _ (List.getElem_mem hk)
  · rw [List.getD_eq_getElem?_getD, List.getElem?_eq_none hk]
    simp
theorem SmallD.pnd_len {S : List Sec} {C : List Pnd} (h : SmallD S C) (k : Nat) : (C.getD k (0, [])).2.length ≤ 100 := by
  rcases Nat.lt_or_ge k C.length with hk | hk
  · rw [List.getD_eq_getElem?_getD, List.getElem?_eq_getElem hk, Option.getD_some]
    exact h.wide _ (List.getElem_mem hk)
  · rw [List.getD_eq_getElem?_getD, List.getElem?_eq_none hk]
    simp
end Go.Proofs.Yteinfkjlcpfeiaa
