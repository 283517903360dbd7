/- Contracts of the layer number: sums, and small helpers. -/
import Derived.Test.YtpnclppjmgeddaaOpBase
import Derived.Test.YtpnclppjmgeddaaRows
import Derived.Test.YtpnclppjmgeddaaPlain
import Derived.WalkKit
import Derived.WalkSpells
import Derived.WalkLawsBesides
import Derived.Lib.Hide
import Derived.IntWalk
import Derived.Laws.Externs
import Derived.Deep.QuietTactic
import Derived.BigQuiet
import Derived.Deep.RegionWith
namespace Go.Proofs.Ytpnclppjmgeddaa
open Go.RowKit
set_option linter.unusedVariables false

end Go.Proofs.Ytpnclppjmgeddaa
