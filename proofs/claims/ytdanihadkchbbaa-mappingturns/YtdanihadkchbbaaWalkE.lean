/- The law's own helpers gets, fails, all, where they say yes. -/
import Derived.Test.YtdanihadkchbbaaOpBase
import Derived.Test.YtdanihadkchbbaaWalkD
namespace Go.Proofs.Ytdanihadkchbbaa
open Go.RowKit
set_option linter.unusedVariables false

end Go.Proofs.Ytdanihadkchbbaa
