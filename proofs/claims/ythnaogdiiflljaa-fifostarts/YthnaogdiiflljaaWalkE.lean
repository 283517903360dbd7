/- The law's own helpers gets, fails, all, where they say yes. -/
import Derived.Test.YthnaogdiiflljaaOpBase
import Derived.Test.YthnaogdiiflljaaWalkD
namespace Go.Proofs.Ythnaogdiiflljaa
open Go.RowKit
set_option linter.unusedVariables false

end Go.Proofs.Ythnaogdiiflljaa
