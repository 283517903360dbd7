/- Contracts of the layer number: sums, and small helpers. -/
import Derived.Test.YtbenfdbjpefegaaDoorOpBase
import Derived.Test.YtbenfdbjpefegaaDoorRows
import Derived.Test.YtbenfdbjpefegaaDoorPlain
import Derived.WalkKit
import Derived.WalkSpells
import Derived.WalkLawsBesides
import Derived.Lib.Hide
import Derived.IntWalk
import Derived.Laws.Externs
import Derived.Deep.QuietTactic
import Derived.BigQuiet
import Derived.Deep.RegionWith
namespace Go.Proofs.YtbenfdbjpefegaaDoor
open Go.RowKit
set_option linter.unusedVariables false

set_option maxHeartbeats 400000 in
theorem size_any (a : Int) (w : World) (h1 : -9223372036854775808 ≤ a) (h2 : a ≤ 9223372036854775807) :
    Calls Tryd.prog 70 #[.int .i64 a] w fun e w' => e = .returned (.int .u64 (sz a)) ∧ w = w' := by
  by_cases h : a < 0
  · have hq := Lib.hid (sz_neg a h1 h)
    go_enter Tryd.func70, Tryd.ntmps70
    go_wp2
    go_ret
    exact ⟨ret_int hq.out, rfl⟩
  · have hz : sz a = a := by unfold sz; rw [if_neg h]
    have hq := Lib.hid hz
    clear hz
    go_enter Tryd.func70, Tryd.ntmps70
    go_wp2
    go_ret
    exact ⟨ret_int hq.out.symm, rfl⟩

end Go.Proofs.YtbenfdbjpefegaaDoor
