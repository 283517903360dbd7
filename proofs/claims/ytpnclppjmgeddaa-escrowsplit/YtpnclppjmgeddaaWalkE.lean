/- The law's own helpers gets, fails, all, where they say yes. -/
import Derived.Test.YtpnclppjmgeddaaOpBase
import Derived.Test.YtpnclppjmgeddaaWalkD
namespace Go.Proofs.Ytpnclppjmgeddaa
open Go.RowKit
set_option linter.unusedVariables false

end Go.Proofs.Ytpnclppjmgeddaa
