/- The law's own helpers gets, fails, all, where they say yes. -/
import Derived.Test.YtmhnnilfehankaaOpBase
import Derived.Test.YtmhnnilfehankaaWalkD
namespace Go.Proofs.Ytmhnnilfehankaa
open Go.RowKit
set_option linter.unusedVariables false

end Go.Proofs.Ytmhnnilfehankaa
