/- The law's own helpers gets, fails, all, where they say yes. -/
import Derived.Test.YtbmoiacjigmggaaOpBase
import Derived.Test.YtbmoiacjigmggaaWalkD
namespace Go.Proofs.Ytbmoiacjigmggaa
open Go.RowKit
set_option linter.unusedVariables false

end Go.Proofs.Ytbmoiacjigmggaa
