/- OverInts, OverState: what is the call's own is written over. -/
import Derived.Test.YtpnclppjmgeddaaOpBase
import Derived.Test.YtpnclppjmgeddaaMaBase
namespace Go.Proofs.Ytpnclppjmgeddaa
open Go.RowKit Go.Maps
set_option linter.unusedVariables false

end Go.Proofs.Ytpnclppjmgeddaa
