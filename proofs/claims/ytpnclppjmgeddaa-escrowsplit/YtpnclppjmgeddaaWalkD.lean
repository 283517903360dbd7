/- Contracts of the layer number: Get, whole. -/
import Derived.Test.YtpnclppjmgeddaaOpBase
import Derived.Test.YtpnclppjmgeddaaWalkC
import Derived.Test.YtpnclppjmgeddaaWalkB
namespace Go.Proofs.Ytpnclppjmgeddaa
open Go.RowKit
set_option linter.unusedVariables false

def GetPost (l : List UInt8) (w : World) (e : Ending) (w' : World) : Prop :=
  e = .returned (.tuple #[.int .i64 (getN l), .agg #[.int .i64 (getE l), .int .i64 (getP l)]]) ∧ Below w.heap.size w w'

end Go.Proofs.Ytpnclppjmgeddaa
