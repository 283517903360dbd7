/- Contracts of the layer number: Get. -/
import Derived.Test.YtbmoiacjigmggaaOpBase
import Derived.Test.YtbmoiacjigmggaaWalkA
namespace Go.Proofs.Ytbmoiacjigmggaa
open Go.RowKit
set_option linter.unusedVariables false

end Go.Proofs.Ytbmoiacjigmggaa
