/- Contracts of the layer number: Get. -/
import Derived.Test.YtmhnnilfehankaaOpBase
import Derived.Test.YtmhnnilfehankaaWalkA
namespace Go.Proofs.Ytmhnnilfehankaa
open Go.RowKit
set_option linter.unusedVariables false

end Go.Proofs.Ytmhnnilfehankaa
