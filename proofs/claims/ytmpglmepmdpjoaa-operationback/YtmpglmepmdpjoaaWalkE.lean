/- The law's own helpers gets, fails, all, where they say yes. -/
import Derived.Test.YtmpglmepmdpjoaaOpBase
import Derived.Test.YtmpglmepmdpjoaaWalkD
namespace Go.Proofs.Ytmpglmepmdpjoaa
open Go.RowKit
set_option linter.unusedVariables false

end Go.Proofs.Ytmpglmepmdpjoaa
