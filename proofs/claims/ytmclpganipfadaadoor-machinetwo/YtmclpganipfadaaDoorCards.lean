/-
  DERIVED. GIVEN WITH THE SEED: THE CARDS: each row of YtmclpganipfadaaDoorRows.lean that lists a variable, with what it lists TIED to the program's text (the seventh form; the later family's looks); each row that meets fmt, with fmt's text TOLD by the authors' own Lean function (tested against real Go, not proved from fmt's source: count such statements apart). THE CARD IS WHAT COUNTS. Prove the row's statement (the work); the ties are given (YtmclpganipfadaaDoorTie.lean); close each card by the builder's one call (the guide's Derived/Test/ToyasCard.lean, 'card_holds'). Laid BY PROGRAM, IN A SANDBOX (cutbox-door.mjs). By AI agents, Wed Nov 11 2026. No macro, syntax, notation, axiom, sorry.
-/
import Derived.Test.YtmclpganipfadaaDoorRows
import GoSem.ClaimSeven
namespace Go.Proofs.YtmclpganipfadaaDoor
namespace Rows

/-- THE TIED CARD OF 'armisticelaw11.MachineKnown'. -/
def machineKnownCard : Claim7 := { stood := { row := machineKnownRow, standIns := [], harness := (true, "8590968e0da44156617f144835b941c13ecef803c7516ed5afd698fa392aa028"), looks := false }, kinds := [], alts := [], laidByText := true, laidKinds := [.data], laidTests := true, laidLooks := .later }
def MachineKnownCardSaid : Prop := Claim7.holds Tryd.pinned (.plain (OpenSpec.ofChange machineKnownSpec)) machineKnownCard

/-- THE TIED CARD OF 'armisticelaw11.MachineTotal'. -/
def machineTotalCard : Claim7 := { stood := { row := machineTotalRow, standIns := [], harness := (true, "8590968e0da44156617f144835b941c13ecef803c7516ed5afd698fa392aa028"), looks := false }, kinds := [], alts := [], laidByText := true, laidKinds := [.data], laidTests := true, laidLooks := .later }
def MachineTotalCardSaid : Prop := Claim7.holds Tryd.pinned (.plain (OpenSpec.ofChange machineTotalSpec)) machineTotalCard

/-- THE TIED CARD OF 'armisticelaw11.MachineTwo'. -/
def machineTwoCard : Claim7 := { stood := { row := machineTwoRow, standIns := [], harness := (true, "8590968e0da44156617f144835b941c13ecef803c7516ed5afd698fa392aa028"), looks := false }, kinds := [], alts := [], laidByText := true, laidKinds := [.data], laidTests := true, laidLooks := .later }
def MachineTwoCardSaid : Prop := Claim7.holds Tryd.pinned (.plain (OpenSpec.ofChange machineTwoSpec)) machineTwoCard

/-- THE SECOND FORM's CARD OF 'armisticelaw11.MachineKnown'. -/
def machineKnownUptoCard : Claim7 := { stood := { row := machineKnownUptoRow, standIns := [], harness := (true, "8590968e0da44156617f144835b941c13ecef803c7516ed5afd698fa392aa028"), looks := false }, kinds := [], alts := [], laidByText := true, laidKinds := [.data], laidTests := true, laidLooks := .later }
def MachineKnownUptoCardSaid : Prop := Claim7.holds Tryd.pinned (.plain (OpenSpec.upto machineKnownSpec)) machineKnownUptoCard

/-- THE SECOND FORM's CARD OF 'armisticelaw11.MachineTotal'. -/
def machineTotalUptoCard : Claim7 := { stood := { row := machineTotalUptoRow, standIns := [], harness := (true, "8590968e0da44156617f144835b941c13ecef803c7516ed5afd698fa392aa028"), looks := false }, kinds := [], alts := [], laidByText := true, laidKinds := [.data], laidTests := true, laidLooks := .later }
def MachineTotalUptoCardSaid : Prop := Claim7.holds Tryd.pinned (.plain (OpenSpec.upto machineTotalSpec)) machineTotalUptoCard

/-- THE SECOND FORM's CARD OF 'armisticelaw11.MachineTwo'. -/
def machineTwoUptoCard : Claim7 := { stood := { row := machineTwoUptoRow, standIns := [], harness := (true, "8590968e0da44156617f144835b941c13ecef803c7516ed5afd698fa392aa028"), looks := false }, kinds := [], alts := [], laidByText := true, laidKinds := [.data], laidTests := true, laidLooks := .later }
def MachineTwoUptoCardSaid : Prop := Claim7.holds Tryd.pinned (.plain (OpenSpec.upto machineTwoSpec)) machineTwoUptoCard
end Rows
end Go.Proofs.YtmclpganipfadaaDoor
