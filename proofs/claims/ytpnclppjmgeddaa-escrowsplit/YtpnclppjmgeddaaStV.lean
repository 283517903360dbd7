/- Bytes that are lent: LentBytes, KeptBytes. -/
import Derived.Test.YtpnclppjmgeddaaOpBase
import Derived.Test.YtpnclppjmgeddaaStBase
namespace Go.Proofs.Ytpnclppjmgeddaa
open Go.RowKit
set_option linter.unusedVariables false

def LentPost (bs : List Int) (w : World) (e : Ending) (w' : World) : Prop :=
  ∃ g cap, e = .returned (.slice (some ⟨g, 0, none⟩) bs.length cap) ∧ bs.length + 4 ≤ cap ∧ w'.ownsRow w.heap.size 5 1 (.slice (some ⟨g, 0, none⟩) (bs.length + 4) cap) (bs.length + 4) (bytesOf (bs ++ [201, 202, 203, 204])) ∧ Below w.heap.size w w'
end Go.Proofs.Ytpnclppjmgeddaa
