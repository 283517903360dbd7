/-
  DERIVED. GIVEN WITH THE SEED: THE CARDS: each row of YtmclpganipfadaaGreatDoorRows.lean that lists a variable, with what it lists TIED to the program's text (the seventh form; the later family's looks); each row that meets fmt, with fmt's text TOLD by the authors' own Lean function (tested against real Go, not proved from fmt's source: count such statements apart). THE CARD IS WHAT COUNTS. Prove the row's statement (the work); the ties are given (YtmclpganipfadaaGreatDoorTie.lean); close each card by the builder's one call (the guide's Derived/Test/ToyasCard.lean, 'card_holds'). Laid BY PROGRAM, IN A SANDBOX (cutbox-door.mjs). By AI agents, Wed Nov 11 2026. No macro, syntax, notation, axiom, sorry.
-/
import Derived.Test.YtmclpganipfadaaGreatDoorRows
import GoSem.ClaimSeven
namespace Go.Proofs.YtmclpganipfadaaGreatDoor
namespace Rows

/-- THE TIED CARD OF 'armisticelaw11.MachineApplies'. -/
def machineAppliesCard : Claim7 := { stood := { row := machineAppliesRow, standIns := [], harness := (true, "38038012a49d092e7a247ffbcb2787adac2fc0990199961fa930c50251160f44"), looks := false }, kinds := [], alts := [], laidByText := true, laidKinds := [.data], laidTests := true, laidLooks := .later }
def MachineAppliesCardSaid : Prop := Claim7.holds Tryz.pinned (.plain (OpenSpec.ofChange machineAppliesSpec)) machineAppliesCard

/-- THE TIED CARD OF 'armisticelaw11.MachineRuns'. -/
def machineRunsCard : Claim7 := { stood := { row := machineRunsRow, standIns := [], harness := (true, "38038012a49d092e7a247ffbcb2787adac2fc0990199961fa930c50251160f44"), looks := false }, kinds := [], alts := [], laidByText := true, laidKinds := [.data], laidTests := true, laidLooks := .later }
def MachineRunsCardSaid : Prop := Claim7.holds Tryz.pinned (.plain (OpenSpec.ofChange machineRunsSpec)) machineRunsCard

/-- THE SECOND FORM's CARD OF 'armisticelaw11.MachineApplies'. -/
def machineAppliesUptoCard : Claim7 := { stood := { row := machineAppliesUptoRow, standIns := [], harness := (true, "38038012a49d092e7a247ffbcb2787adac2fc0990199961fa930c50251160f44"), looks := false }, kinds := [], alts := [], laidByText := true, laidKinds := [.data], laidTests := true, laidLooks := .later }
def MachineAppliesUptoCardSaid : Prop := Claim7.holds Tryz.pinned (.plain (OpenSpec.upto machineAppliesSpec)) machineAppliesUptoCard

/-- THE SECOND FORM's CARD OF 'armisticelaw11.MachineRuns'. -/
def machineRunsUptoCard : Claim7 := { stood := { row := machineRunsUptoRow, standIns := [], harness := (true, "38038012a49d092e7a247ffbcb2787adac2fc0990199961fa930c50251160f44"), looks := false }, kinds := [], alts := [], laidByText := true, laidKinds := [.data], laidTests := true, laidLooks := .later }
def MachineRunsUptoCardSaid : Prop := Claim7.holds Tryz.pinned (.plain (OpenSpec.upto machineRunsSpec)) machineRunsUptoCard
end Rows
end Go.Proofs.YtmclpganipfadaaGreatDoor
