/- Contracts of the layer number: Get. -/
import Derived.Test.YtdanihadkchbbaaOpBase
import Derived.Test.YtdanihadkchbbaaWalkA
namespace Go.Proofs.Ytdanihadkchbbaa
open Go.RowKit
set_option linter.unusedVariables false

end Go.Proofs.Ytdanihadkchbbaa
