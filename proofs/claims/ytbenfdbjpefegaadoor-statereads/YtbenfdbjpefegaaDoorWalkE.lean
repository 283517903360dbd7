/- The law's own helpers gets, fails, all, where they say yes. -/
import Derived.Test.YtbenfdbjpefegaaDoorOpBase
import Derived.Test.YtbenfdbjpefegaaDoorWalkD
namespace Go.Proofs.YtbenfdbjpefegaaDoor
open Go.RowKit
set_option linter.unusedVariables false

end Go.Proofs.YtbenfdbjpefegaaDoor
