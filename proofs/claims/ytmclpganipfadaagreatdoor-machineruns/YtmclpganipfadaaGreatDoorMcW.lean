/- The types of the sixteen kinds, as the program's text lays them: from the row's condition to what the walks ask; the witness's own heap. -/
import Derived.Test.YtmclpganipfadaaGreatDoorMcB
import Derived.Test.YtmclpganipfadaaGreatDoorRows
import Derived.ProofKit
import Derived.LaidMore
import Derived.OpenShut
import Derived.Stop.Joined
namespace Go.Proofs.YtmclpganipfadaaGreatDoor
open Go.ChangeShapes Go.WideShapes Go.ChangeAt Go.WideMaps Go.WideElems Go.RowKit
set_option linter.unusedVariables false
set_option maxRecDepth 100000

theorem gTypes : Tryz.prog.globalNamed "armistice/machine.types" = some 0 := by kernel_rfl
theorem tTypes : (Tryz.prog.globals[0]?).map (·.type) = some 55 := by kernel_rfl
theorem cNum : Tryz.prog.cellsOf 3 = 1 := by kernel_rfl
def laidM : List (String × DataW Unit) := [("armistice/machine.types", Rows.laid_armistice_machine_types)]

theorem door_met (os : Os) (args : Array Value) : laidMetH Tryz.prog laidM ((World.doorLaid Tryz.prog 400 os).forCall (fun _ _ => 0) ⟨#[], args, []⟩).memory :=
  laidMetH_of_parts3 (fuel := 8) (laidMet_of_run' 8 (by kernel_rfl) (by kernel_rfl)) (by kernel_rfl) (by kernel_rfl)

theorem tys_of {W : World} (h : laidMetH Tryz.prog laidM W) : Tys W := by
  rw [MakeChecks.laidMetH_plain _ _ _ (by kernel_rfl)] at h
  obtain ⟨ps, ⟨g0, t0, cs0, f0, p0, q0, hg0, ht0, hv0, hd0, _, _⟩, _, _⟩ := h
  obtain rfl := Option.some.inj (gTypes.symm.trans hg0)
  obtain rfl := Option.some.inj (tTypes.symm.trans ht0)
  obtain ⟨xs, m1, rfl, hx1, hlen, hn6, hel⟩ := DataW.trod_array Tryz.underlying55 hd0
  simp only [Prod.mk.injEq] at hx1
  unfold Rows.laid_armistice_machine_types at hx1
  have hx := hx1.1
  rw [DataW.agg.injEq] at hx
  intro i hi
  have h1 := hel i hi
  rw [cNum, Nat.mul_one] at h1
  have hxi : i < xs.length := by omega
  rw [List.getElem?_eq_getElem hxi] at h1
  obtain ⟨s, e1, e2, _⟩ := DataW.trod_int Tryz.underlying3 h1
  have hc := World.var?_cell hg0 hv0 i
  have hci : cs0[i]? = some (.int .i64 s) := by
    have : ((cs0.toList.drop i).take 1)[0]? = some (.int .i64 s) := by rw [e1]; rfl
    rw [List.getElem?_take, if_pos (by omega), List.getElem?_drop, Nat.add_zero, Array.getElem?_toList] at this
    exact this
  rw [hc, hci]
  have h2 : (xs.map (·.1))[i]? = some (.lit (.int .i64 s)) := by
    rw [List.getElem?_map, List.getElem?_eq_getElem hxi, e2]; rfl
  rw [← hx] at h2
  have : s = typeB i := by
    match i, hi with
    | 0, _ | 1, _ | 2, _ | 3, _ | 4, _ | 5, _ | 6, _ | 7, _ | 8, _ | 9, _ | 10, _ | 11, _ | 12, _ | 13, _ | 14, _ | 15, _ => simp at h2; exact h2.symm
  rw [this]
end Go.Proofs.YtmclpganipfadaaGreatDoor
