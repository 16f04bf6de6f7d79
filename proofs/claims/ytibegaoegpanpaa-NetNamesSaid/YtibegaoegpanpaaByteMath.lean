/- Bytes and words as numbers. Nothing of the program. -/
namespace Go.Proofs.Ytibegaoegpanpaa

def isByte (z : Int) : Prop := 0 ≤ z ∧ z < 256
def isWord (z : Int) : Prop := 0 ≤ z ∧ z < 18446744073709551616

end Go.Proofs.Ytibegaoegpanpaa
