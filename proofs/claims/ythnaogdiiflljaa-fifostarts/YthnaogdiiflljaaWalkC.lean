/- Contracts of the layer number: Get. -/
import Derived.Test.YthnaogdiiflljaaOpBase
import Derived.Test.YthnaogdiiflljaaWalkA
namespace Go.Proofs.Ythnaogdiiflljaa
open Go.RowKit
set_option linter.unusedVariables false

end Go.Proofs.Ythnaogdiiflljaa
