/- Contracts of the layer names: Order. -/
import Derived.Test.YtdjmpmogmkiegaaNmD
import Derived.Test.YtdjmpmogmkiegaaNmE
import Derived.Test.YtdjmpmogmkiegaaNmShB
import Derived.Shelf.SlSortCmp.Whole1
import Derived.BigQuiet
namespace Go.Proofs.Ytdjmpmogmkiegaa
open Go.RowKit Go.Maps
set_option linter.unusedVariables false

set_option maxHeartbeats 1000000 in
/-- The closure: in whatever world in which the table's pointer, its slice and its names stand. -/
theorem order1_any (X B g c : Nat) (ns : List ByteArray) (i j : Nat) (W : World) (hi : i < ns.length) (hj : j < ns.length)
    (hX : W.cell? ⟨X, 0, none⟩ = some (.pointer (some ⟨B, 0, none⟩))) (h2 : W.cell? ⟨B, 2, none⟩ = some (.slice (some ⟨g, 0, none⟩) ns.length c))
    (hc : ∀ j, j < ns.length → W.cell? ⟨g, j, none⟩ = some (.string (ns[j]?.getD ⟨#[]⟩))) :
    Calls Try.prog 34 #[.int .i64 i, .int .i64 j, .pointer (some ⟨X, 0, none⟩)] W fun e w' => e = .returned (.int .i64 (Lib.compareBytes (nm ns i) (nm ns j))) ∧ ∃ q, w' = W.drewN q := by
  have c1 := hc i hi
  have c2 := hc j hj
  unfold nm
  generalize ns[i]?.getD ⟨#[]⟩ = s at c1 ⊢
  generalize ns[j]?.getD ⟨#[]⟩ = t at c2 ⊢
  have hcon := fun W => Any.strings_Compare Try.compL s t W
  change ∀ W, Calls Try.prog 35 _ _ _ at hcon
  generalize Lib.compareBytes s.data.toList t.data.toList = r at hcon ⊢
  have k1 : (0 : Int) ≤ (i : Int) := by omega
  have k2 : (i : Int) < (ns.length : Int) := by omega
  have k3 : (0 : Int) ≤ (j : Int) := by omega
  have k4 : (j : Int) < (ns.length : Int) := by omega
  clear hc
  go_enter Try.func34, Try.ntmps34
  go_wp2_with fail
  go_quiet ((go_at_call 35; exact Calls.quiet_of_same (hcon _)))
  go_wp2
  go_ret
  exact ⟨rfl, _, rfl⟩
end Go.Proofs.Ytdjmpmogmkiegaa
