/-
  DERIVED. GIVEN WITH THE SEED: THE CARDS: each row of YtpdbkjnaicjfdaaGreatDoorRows.lean that lists a variable, with what it lists TIED to the program's text (the seventh form; the later family's looks); each row that meets fmt, with fmt's text TOLD by the authors' own Lean function (tested against real Go, not proved from fmt's source: count such statements apart). THE CARD IS WHAT COUNTS. Prove the row's statement (the work); the ties are given (YtpdbkjnaicjfdaaGreatDoorTie.lean); close each card by the builder's one call (the guide's Derived/Test/ToyasCard.lean, 'card_holds'). Laid BY PROGRAM, IN A SANDBOX (cutbox-door.mjs). By AI agents, Wed Nov 11 2026. No macro, syntax, notation, axiom, sorry.
-/
import Derived.Test.YtpdbkjnaicjfdaaGreatDoorRows
import GoSem.ClaimSeven
namespace Go.Proofs.YtpdbkjnaicjfdaaGreatDoor
namespace Rows

/-- THE TIED CARD OF 'armisticelaw13.HistoryChecks'. -/
def historyChecksCard : Claim7 := { stood := { row := historyChecksRow, standIns := [], harness := (true, "caa376d2552c8ab8ec1eb2288b7ccf922ceed81f4663aa20de9fd1389f17be6c"), looks := true }, kinds := [], alts := [], laidByText := true, laidKinds := [.data, .data], laidTests := true, laidLooks := .later }
def HistoryChecksCardSaid : Prop := Claim7.holds Tryz.pinned (.plain (OpenSpec.ofChange historyChecksSpec)) historyChecksCard

/-- THE TIED CARD OF 'armisticelaw13.HistoryDesks'. -/
def historyDesksCard : Claim7 := { stood := { row := historyDesksRow, standIns := [], harness := (true, "caa376d2552c8ab8ec1eb2288b7ccf922ceed81f4663aa20de9fd1389f17be6c"), looks := true }, kinds := [], alts := [], laidByText := true, laidKinds := [.data, .data], laidTests := true, laidLooks := .later }
def HistoryDesksCardSaid : Prop := Claim7.holds Tryz.pinned (.plain (OpenSpec.ofChange historyDesksSpec)) historyDesksCard

/-- THE TIED CARD OF 'armisticelaw13.HistoryNone'. -/
def historyNoneCard : Claim7 := { stood := { row := historyNoneRow, standIns := [], harness := (true, "caa376d2552c8ab8ec1eb2288b7ccf922ceed81f4663aa20de9fd1389f17be6c"), looks := true }, kinds := [], alts := [], laidByText := true, laidKinds := [.data, .data], laidTests := true, laidLooks := .later }
def HistoryNoneCardSaid : Prop := Claim7.holds Tryz.pinned (.plain (OpenSpec.ofChange historyNoneSpec)) historyNoneCard

/-- THE TIED CARD OF 'armisticelaw13.HistoryKnown'. -/
def historyKnownCard : Claim7 := { stood := { row := historyKnownRow, standIns := [], harness := (true, "caa376d2552c8ab8ec1eb2288b7ccf922ceed81f4663aa20de9fd1389f17be6c"), looks := true }, kinds := [], alts := [], laidByText := true, laidKinds := [.data, .data], laidTests := true, laidLooks := .later }
def HistoryKnownCardSaid : Prop := Claim7.holds Tryz.pinned (.plain (OpenSpec.ofChange historyKnownSpec)) historyKnownCard

/-- THE TIED CARD OF 'armisticelaw13.HistoryBegins'. -/
def historyBeginsCard : Claim7 := { stood := { row := historyBeginsRow, standIns := [], harness := (true, "caa376d2552c8ab8ec1eb2288b7ccf922ceed81f4663aa20de9fd1389f17be6c"), looks := true }, kinds := [], alts := [], laidByText := true, laidKinds := [.data, .data], laidTests := true, laidLooks := .later }
def HistoryBeginsCardSaid : Prop := Claim7.holds Tryz.pinned (.plain (OpenSpec.ofChange historyBeginsSpec)) historyBeginsCard

/-- THE TIED CARD OF 'armisticelaw13.HistoryWithout'. -/
def historyWithoutCard : Claim7 := { stood := { row := historyWithoutRow, standIns := [], harness := (true, "caa376d2552c8ab8ec1eb2288b7ccf922ceed81f4663aa20de9fd1389f17be6c"), looks := true }, kinds := [], alts := [], laidByText := true, laidKinds := [.data, .data], laidTests := true, laidLooks := .later }
def HistoryWithoutCardSaid : Prop := Claim7.holds Tryz.pinned (.plain (OpenSpec.ofChange historyWithoutSpec)) historyWithoutCard

/-- THE TIED CARD OF 'armisticelaw13.HistoryOver'. -/
def historyOverCard : Claim7 := { stood := { row := historyOverRow, standIns := [], harness := (true, "caa376d2552c8ab8ec1eb2288b7ccf922ceed81f4663aa20de9fd1389f17be6c"), looks := true }, kinds := [], alts := [], laidByText := true, laidKinds := [.data, .data], laidTests := true, laidLooks := .later }
def HistoryOverCardSaid : Prop := Claim7.holds Tryz.pinned (.plain (OpenSpec.ofChange historyOverSpec)) historyOverCard

/-- THE TIED CARD OF 'armisticelaw12.GrammarTwo'. -/
def grammarTwoCard : Claim7 := { stood := { row := grammarTwoRow, standIns := [], harness := (true, "caa376d2552c8ab8ec1eb2288b7ccf922ceed81f4663aa20de9fd1389f17be6c"), looks := true }, kinds := [], alts := [], laidByText := true, laidKinds := [.data, .data], laidTests := true, laidLooks := .later }
def GrammarTwoCardSaid : Prop := Claim7.holds Tryz.pinned (.plain (OpenSpec.ofChange grammarTwoSpec)) grammarTwoCard

/-- THE SECOND FORM's CARD OF 'armisticelaw13.HistoryChecks'. -/
def historyChecksUptoCard : Claim7 := { stood := { row := historyChecksUptoRow, standIns := [], harness := (true, "caa376d2552c8ab8ec1eb2288b7ccf922ceed81f4663aa20de9fd1389f17be6c"), looks := true }, kinds := [], alts := [], laidByText := true, laidKinds := [.data, .data], laidTests := true, laidLooks := .later }
def HistoryChecksUptoCardSaid : Prop := Claim7.holds Tryz.pinned (.plain (OpenSpec.upto historyChecksSpec)) historyChecksUptoCard

/-- THE SECOND FORM's CARD OF 'armisticelaw13.HistoryDesks'. -/
def historyDesksUptoCard : Claim7 := { stood := { row := historyDesksUptoRow, standIns := [], harness := (true, "caa376d2552c8ab8ec1eb2288b7ccf922ceed81f4663aa20de9fd1389f17be6c"), looks := true }, kinds := [], alts := [], laidByText := true, laidKinds := [.data, .data], laidTests := true, laidLooks := .later }
def HistoryDesksUptoCardSaid : Prop := Claim7.holds Tryz.pinned (.plain (OpenSpec.upto historyDesksSpec)) historyDesksUptoCard

/-- THE SECOND FORM's CARD OF 'armisticelaw13.HistoryNone'. -/
def historyNoneUptoCard : Claim7 := { stood := { row := historyNoneUptoRow, standIns := [], harness := (true, "caa376d2552c8ab8ec1eb2288b7ccf922ceed81f4663aa20de9fd1389f17be6c"), looks := true }, kinds := [], alts := [], laidByText := true, laidKinds := [.data, .data], laidTests := true, laidLooks := .later }
def HistoryNoneUptoCardSaid : Prop := Claim7.holds Tryz.pinned (.plain (OpenSpec.upto historyNoneSpec)) historyNoneUptoCard

/-- THE SECOND FORM's CARD OF 'armisticelaw13.HistoryKnown'. -/
def historyKnownUptoCard : Claim7 := { stood := { row := historyKnownUptoRow, standIns := [], harness := (true, "caa376d2552c8ab8ec1eb2288b7ccf922ceed81f4663aa20de9fd1389f17be6c"), looks := true }, kinds := [], alts := [], laidByText := true, laidKinds := [.data, .data], laidTests := true, laidLooks := .later }
def HistoryKnownUptoCardSaid : Prop := Claim7.holds Tryz.pinned (.plain (OpenSpec.upto historyKnownSpec)) historyKnownUptoCard

/-- THE SECOND FORM's CARD OF 'armisticelaw13.HistoryBegins'. -/
def historyBeginsUptoCard : Claim7 := { stood := { row := historyBeginsUptoRow, standIns := [], harness := (true, "caa376d2552c8ab8ec1eb2288b7ccf922ceed81f4663aa20de9fd1389f17be6c"), looks := true }, kinds := [], alts := [], laidByText := true, laidKinds := [.data, .data], laidTests := true, laidLooks := .later }
def HistoryBeginsUptoCardSaid : Prop := Claim7.holds Tryz.pinned (.plain (OpenSpec.upto historyBeginsSpec)) historyBeginsUptoCard

/-- THE SECOND FORM's CARD OF 'armisticelaw13.HistoryWithout'. -/
def historyWithoutUptoCard : Claim7 := { stood := { row := historyWithoutUptoRow, standIns := [], harness := (true, "caa376d2552c8ab8ec1eb2288b7ccf922ceed81f4663aa20de9fd1389f17be6c"), looks := true }, kinds := [], alts := [], laidByText := true, laidKinds := [.data, .data], laidTests := true, laidLooks := .later }
def HistoryWithoutUptoCardSaid : Prop := Claim7.holds Tryz.pinned (.plain (OpenSpec.upto historyWithoutSpec)) historyWithoutUptoCard

/-- THE SECOND FORM's CARD OF 'armisticelaw13.HistoryOver'. -/
def historyOverUptoCard : Claim7 := { stood := { row := historyOverUptoRow, standIns := [], harness := (true, "caa376d2552c8ab8ec1eb2288b7ccf922ceed81f4663aa20de9fd1389f17be6c"), looks := true }, kinds := [], alts := [], laidByText := true, laidKinds := [.data, .data], laidTests := true, laidLooks := .later }
def HistoryOverUptoCardSaid : Prop := Claim7.holds Tryz.pinned (.plain (OpenSpec.upto historyOverSpec)) historyOverUptoCard

/-- THE SECOND FORM's CARD OF 'armisticelaw12.GrammarTwo'. -/
def grammarTwoUptoCard : Claim7 := { stood := { row := grammarTwoUptoRow, standIns := [], harness := (true, "caa376d2552c8ab8ec1eb2288b7ccf922ceed81f4663aa20de9fd1389f17be6c"), looks := true }, kinds := [], alts := [], laidByText := true, laidKinds := [.data, .data], laidTests := true, laidLooks := .later }
def GrammarTwoUptoCardSaid : Prop := Claim7.holds Tryz.pinned (.plain (OpenSpec.upto grammarTwoSpec)) grammarTwoUptoCard
end Rows
end Go.Proofs.YtpdbkjnaicjfdaaGreatDoor
