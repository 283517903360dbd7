/-
  NARROWER THAN 'FOR EVERY INPUT', by the rows' own cells (each row's printed sentence says how): StateTells: laid · StateReads: laid · StateKnown: laid · StateBack: laid · StateOne: laid · StateAgain: laid.
  DERIVED. THE GIVEN ROWS OF THIS SEAT. 6 by the template 'for every input the law returns true; each argument reads behind the call as it read before'; 0 by the template 'total and deterministic' (their statements: YtbenfdbjpefegaaDoorTotals.lean).
  GIVEN WITH THE SEED: the statements are not yours to turn. If you find one false, say at which input.
  Laid BY PROGRAM, IN A SANDBOX (cutbox-rows.mjs): the forced cells as the released guide's own fill.sh prints them over the translation 646742add8a1ba8a… (all of the seat's roots in one cut). By AI agents, Wed Nov 11 2026. No macro, syntax, notation, axiom, sorry.
-/
import Derived.Test.YtbenfdbjpefegaaDoorChecked
import GoSem.Claim
import GoSem.ClaimJoined
import GoSem.ClaimMapViews
import Derived.JoinedTies
import Derived.KernelRfl
namespace Go.Proofs.YtbenfdbjpefegaaDoor
/- THE CELL 'sum', in the pinned program and in every row, IS THE sha256 OF THE DUMP (.gsa) THAT YtbenfdbjpefegaaDoorProg.lean LOADS. Nothing in Lean hashes anything: it is a label: what it is worth is what the hold of that sum in a sandbox is worth. -/
noncomputable def Tryd.pinned : Pinned := { name := "ytbenfdbjpefegaadoor", sum := "646742add8a1ba8a761734e7e9caab5686d4aa051491ebecda4dd0470490540c", checked := Tryd.checked }
namespace Rows
def none {H : Type} : Left H := { results := [], args := [] }

/- WHAT THE LISTED PACKAGE-LEVEL VARIABLES READ AS WHEN THE CALL BEGINS. Each datum BY PROGRAM (the guide's laid-datum.mjs) off the statement by which the dump's own 'gosem.cut.vars' lays the variable. In a bare row this is a premise. The card (YtbenfdbjpefegaaDoorCards.lean) ties it to the program's text. -/
def laid_armistice_state_words {H : Type} : DataW H := .agg [.lit (.string []), .lit (.string [99, 111, 117, 110, 116, 101, 114]), .lit (.string [115, 101, 116]), .lit (.string [109, 97, 112]), .lit (.string [113, 117, 101, 117, 101]), .lit (.string [101, 115, 99, 114, 111, 119])]

/-- 'armisticelaw05.StateTells': WHATEVER THE INPUT: true; the input reads as it did. -/
def stateTellsSpec : ChangeSpec := { name := "stateTells", fn := fun _ => fun
  | [d1, d2, d3] => { results := [.lit (.bool true)], args := [d1, d2, d3] }
  | _ => none }
def stateTellsRow : OpenClaim := { program := "ytbenfdbjpefegaadoor", sum := "646742add8a1ba8a761734e7e9caab5686d4aa051491ebecda4dd0470490540c", func := "armistice/armisticelaw05.StateTells", spec := "stateTells", inPlace := ["internal/bytealg.IndexByteString", "internal/bytealg.IndexString"], unfollowed := true, recurses := true, named := ["armistice/state.words", "internal/bytealg.MaxLen"], apart := false, laid := [("armistice/state.words", laid_armistice_state_words)] }
def StateTellsSaid : Prop := stateTellsRow.holds Tryd.pinned (OpenSpec.ofChange stateTellsSpec)

/-- ITS FALSE NEIGHBOUR: 'it returns false'. Refute it at one input. -/
def stateTellsWrong : ChangeSpec := { name := "stateTells", fn := fun _ => fun
  | [d1, d2, d3] => { results := [.lit (.bool false)], args := [d1, d2, d3] }
  | _ => none }
def StateTellsWrongFalsely : Prop := stateTellsRow.holds Tryd.pinned (OpenSpec.ofChange stateTellsWrong)

/-- 'armisticelaw05.StateReads': WHATEVER THE INPUT: true; the input reads as it did. -/
def stateReadsSpec : ChangeSpec := { name := "stateReads", fn := fun _ => fun
  | [d1, d2] => { results := [.lit (.bool true)], args := [d1, d2] }
  | _ => none }
def stateReadsRow : OpenClaim := { program := "ytbenfdbjpefegaadoor", sum := "646742add8a1ba8a761734e7e9caab5686d4aa051491ebecda4dd0470490540c", func := "armistice/armisticelaw05.StateReads", spec := "stateReads", inPlace := ["internal/bytealg.IndexByteString", "internal/bytealg.IndexString"], unfollowed := true, recurses := true, named := ["armistice/state.words", "internal/bytealg.MaxLen"], apart := false, laid := [("armistice/state.words", laid_armistice_state_words)] }
def StateReadsSaid : Prop := stateReadsRow.holds Tryd.pinned (OpenSpec.ofChange stateReadsSpec)

/-- ITS FALSE NEIGHBOUR: 'it returns false'. Refute it at one input. -/
def stateReadsWrong : ChangeSpec := { name := "stateReads", fn := fun _ => fun
  | [d1, d2] => { results := [.lit (.bool false)], args := [d1, d2] }
  | _ => none }
def StateReadsWrongFalsely : Prop := stateReadsRow.holds Tryd.pinned (OpenSpec.ofChange stateReadsWrong)

/-- 'armisticelaw05.StateKnown': WHATEVER THE INPUT: true; the input reads as it did. -/
def stateKnownSpec : ChangeSpec := { name := "stateKnown", fn := fun _ => fun
  | [] => { results := [.lit (.bool true)], args := [] }
  | _ => none }
def stateKnownRow : OpenClaim := { program := "ytbenfdbjpefegaadoor", sum := "646742add8a1ba8a761734e7e9caab5686d4aa051491ebecda4dd0470490540c", func := "armistice/armisticelaw05.StateKnown", spec := "stateKnown", inPlace := ["internal/bytealg.IndexByteString", "internal/bytealg.IndexString"], unfollowed := true, recurses := true, named := ["armistice/state.words", "internal/bytealg.MaxLen"], apart := false, laid := [("armistice/state.words", laid_armistice_state_words)] }
def StateKnownSaid : Prop := stateKnownRow.holds Tryd.pinned (OpenSpec.ofChange stateKnownSpec)

/-- ITS FALSE NEIGHBOUR: 'it returns false'. Refute it at one input. -/
def stateKnownWrong : ChangeSpec := { name := "stateKnown", fn := fun _ => fun
  | [] => { results := [.lit (.bool false)], args := [] }
  | _ => none }
def StateKnownWrongFalsely : Prop := stateKnownRow.holds Tryd.pinned (OpenSpec.ofChange stateKnownWrong)

/-- 'armisticelaw05.StateBack': WHATEVER THE INPUT: true; the input reads as it did. -/
def stateBackSpec : ChangeSpec := { name := "stateBack", fn := fun _ => fun
  | [d] => { results := [.lit (.bool true)], args := [d] }
  | _ => none }
def stateBackRow : OpenClaim := { program := "ytbenfdbjpefegaadoor", sum := "646742add8a1ba8a761734e7e9caab5686d4aa051491ebecda4dd0470490540c", func := "armistice/armisticelaw05.StateBack", spec := "stateBack", inPlace := ["internal/bytealg.IndexByteString", "internal/bytealg.IndexString"], unfollowed := true, recurses := true, named := ["armistice/state.words", "internal/bytealg.MaxLen"], apart := false, laid := [("armistice/state.words", laid_armistice_state_words)] }
def StateBackSaid : Prop := stateBackRow.holds Tryd.pinned (OpenSpec.ofChange stateBackSpec)

/-- ITS FALSE NEIGHBOUR: 'it returns false'. Refute it at one input. -/
def stateBackWrong : ChangeSpec := { name := "stateBack", fn := fun _ => fun
  | [d] => { results := [.lit (.bool false)], args := [d] }
  | _ => none }
def StateBackWrongFalsely : Prop := stateBackRow.holds Tryd.pinned (OpenSpec.ofChange stateBackWrong)

/-- 'armisticelaw05.StateOne': WHATEVER THE INPUT: true; the input reads as it did. -/
def stateOneSpec : ChangeSpec := { name := "stateOne", fn := fun _ => fun
  | [d1, d2] => { results := [.lit (.bool true)], args := [d1, d2] }
  | _ => none }
def stateOneRow : OpenClaim := { program := "ytbenfdbjpefegaadoor", sum := "646742add8a1ba8a761734e7e9caab5686d4aa051491ebecda4dd0470490540c", func := "armistice/armisticelaw05.StateOne", spec := "stateOne", inPlace := ["internal/bytealg.IndexByteString", "internal/bytealg.IndexString"], unfollowed := true, recurses := true, named := ["armistice/state.words", "internal/bytealg.MaxLen"], apart := false, laid := [("armistice/state.words", laid_armistice_state_words)] }
def StateOneSaid : Prop := stateOneRow.holds Tryd.pinned (OpenSpec.ofChange stateOneSpec)

/-- ITS FALSE NEIGHBOUR: 'it returns false'. Refute it at one input. -/
def stateOneWrong : ChangeSpec := { name := "stateOne", fn := fun _ => fun
  | [d1, d2] => { results := [.lit (.bool false)], args := [d1, d2] }
  | _ => none }
def StateOneWrongFalsely : Prop := stateOneRow.holds Tryd.pinned (OpenSpec.ofChange stateOneWrong)

/-- 'armisticelaw05.StateAgain': WHATEVER THE INPUT: true; the input reads as it did. -/
def stateAgainSpec : ChangeSpec := { name := "stateAgain", fn := fun _ => fun
  | [d1, d2] => { results := [.lit (.bool true)], args := [d1, d2] }
  | _ => none }
def stateAgainRow : OpenClaim := { program := "ytbenfdbjpefegaadoor", sum := "646742add8a1ba8a761734e7e9caab5686d4aa051491ebecda4dd0470490540c", func := "armistice/armisticelaw05.StateAgain", spec := "stateAgain", inPlace := ["internal/bytealg.IndexByteString", "internal/bytealg.IndexString"], unfollowed := true, recurses := true, named := ["armistice/state.words", "internal/bytealg.MaxLen"], apart := false, laid := [("armistice/state.words", laid_armistice_state_words)] }
def StateAgainSaid : Prop := stateAgainRow.holds Tryd.pinned (OpenSpec.ofChange stateAgainSpec)

/-- ITS FALSE NEIGHBOUR: 'it returns false'. Refute it at one input. -/
def stateAgainWrong : ChangeSpec := { name := "stateAgain", fn := fun _ => fun
  | [d1, d2] => { results := [.lit (.bool false)], args := [d1, d2] }
  | _ => none }
def StateAgainWrongFalsely : Prop := stateAgainRow.holds Tryd.pinned (OpenSpec.ofChange stateAgainWrong)

/- THE SECOND FORM. 'bulk': how many values and letters a reading holds, each counted each time it is reached (what is shared counts as often as it is met; a slice's spare places count too). A statement '..UptoSaid' is the law's where the arguments, and the package variables that the reading takes, are together of bulk at most 1048576: NARROWER than '..Said'. Prove '..Said' where nothing that the law and all that it calls make is longer than what came in: it says more and counts as full. Else prove '..UptoSaid'. A law counts once. -/
mutual
def uptoBulk {H : Type} : DataW H → Nat
  | .lit (.string bytes) => bytes.length + 1
  | .lit _ => 1
  | .nil => 1
  | .ptr d => uptoBulk d + 1
  | .slice elems spare => uptoBulkAll elems + uptoBulkAll spare + 1
  | .agg parts => uptoBulkAll parts + 1
  | .iface _ d => uptoBulk d + 1
  | .map entries => uptoBulkEntries entries + 1
  | .held _ => 1
def uptoBulkAll {H : Type} : List (DataW H) → Nat
  | [] => 0
  | d :: r => uptoBulk d + uptoBulkAll r
def uptoBulkEntries {H : Type} : List (Lit × DataW H) → Nat
  | [] => 0
  | x :: r => uptoBulkEntry x + uptoBulkEntries r
def uptoBulkEntry {H : Type} : Lit × DataW H → Nat
  | (.string bytes, d) => bytes.length + uptoBulk d + 1
  | (_, d) => uptoBulk d + 1
 end
def uptoSmall : (H : Type) → List (DataW H) → Bool := fun _ ds => decide (uptoBulkAll ds ≤ 1048576)
def OpenSpec.upto (s : _root_.Go.ChangeSpec) : _root_.Go.OpenSpec := { _root_.Go.OpenSpec.ofChange s with cond := some uptoSmall }

/-- 'armisticelaw05.StateTells', WHERE WHAT IT READS IS OF BULK AT MOST 1048576: true; the input reads as it did. -/
def stateTellsUptoRow : OpenClaim := { program := "ytbenfdbjpefegaadoor", sum := "646742add8a1ba8a761734e7e9caab5686d4aa051491ebecda4dd0470490540c", func := "armistice/armisticelaw05.StateTells", spec := "stateTells", inPlace := ["internal/bytealg.IndexByteString", "internal/bytealg.IndexString"], unfollowed := true, recurses := true, named := ["armistice/state.words", "internal/bytealg.MaxLen"], apart := false, laid := [("armistice/state.words", laid_armistice_state_words)], narrowed := true }
def StateTellsUptoSaid : Prop := stateTellsUptoRow.holds Tryd.pinned (OpenSpec.upto stateTellsSpec)

/-- 'armisticelaw05.StateReads', WHERE WHAT IT READS IS OF BULK AT MOST 1048576: true; the input reads as it did. -/
def stateReadsUptoRow : OpenClaim := { program := "ytbenfdbjpefegaadoor", sum := "646742add8a1ba8a761734e7e9caab5686d4aa051491ebecda4dd0470490540c", func := "armistice/armisticelaw05.StateReads", spec := "stateReads", inPlace := ["internal/bytealg.IndexByteString", "internal/bytealg.IndexString"], unfollowed := true, recurses := true, named := ["armistice/state.words", "internal/bytealg.MaxLen"], apart := false, laid := [("armistice/state.words", laid_armistice_state_words)], narrowed := true }
def StateReadsUptoSaid : Prop := stateReadsUptoRow.holds Tryd.pinned (OpenSpec.upto stateReadsSpec)

/-- 'armisticelaw05.StateKnown', WHERE WHAT IT READS IS OF BULK AT MOST 1048576: true; the input reads as it did. -/
def stateKnownUptoRow : OpenClaim := { program := "ytbenfdbjpefegaadoor", sum := "646742add8a1ba8a761734e7e9caab5686d4aa051491ebecda4dd0470490540c", func := "armistice/armisticelaw05.StateKnown", spec := "stateKnown", inPlace := ["internal/bytealg.IndexByteString", "internal/bytealg.IndexString"], unfollowed := true, recurses := true, named := ["armistice/state.words", "internal/bytealg.MaxLen"], apart := false, laid := [("armistice/state.words", laid_armistice_state_words)], narrowed := true }
def StateKnownUptoSaid : Prop := stateKnownUptoRow.holds Tryd.pinned (OpenSpec.upto stateKnownSpec)

/-- 'armisticelaw05.StateBack', WHERE WHAT IT READS IS OF BULK AT MOST 1048576: true; the input reads as it did. -/
def stateBackUptoRow : OpenClaim := { program := "ytbenfdbjpefegaadoor", sum := "646742add8a1ba8a761734e7e9caab5686d4aa051491ebecda4dd0470490540c", func := "armistice/armisticelaw05.StateBack", spec := "stateBack", inPlace := ["internal/bytealg.IndexByteString", "internal/bytealg.IndexString"], unfollowed := true, recurses := true, named := ["armistice/state.words", "internal/bytealg.MaxLen"], apart := false, laid := [("armistice/state.words", laid_armistice_state_words)], narrowed := true }
def StateBackUptoSaid : Prop := stateBackUptoRow.holds Tryd.pinned (OpenSpec.upto stateBackSpec)

/-- 'armisticelaw05.StateOne', WHERE WHAT IT READS IS OF BULK AT MOST 1048576: true; the input reads as it did. -/
def stateOneUptoRow : OpenClaim := { program := "ytbenfdbjpefegaadoor", sum := "646742add8a1ba8a761734e7e9caab5686d4aa051491ebecda4dd0470490540c", func := "armistice/armisticelaw05.StateOne", spec := "stateOne", inPlace := ["internal/bytealg.IndexByteString", "internal/bytealg.IndexString"], unfollowed := true, recurses := true, named := ["armistice/state.words", "internal/bytealg.MaxLen"], apart := false, laid := [("armistice/state.words", laid_armistice_state_words)], narrowed := true }
def StateOneUptoSaid : Prop := stateOneUptoRow.holds Tryd.pinned (OpenSpec.upto stateOneSpec)

/-- 'armisticelaw05.StateAgain', WHERE WHAT IT READS IS OF BULK AT MOST 1048576: true; the input reads as it did. -/
def stateAgainUptoRow : OpenClaim := { program := "ytbenfdbjpefegaadoor", sum := "646742add8a1ba8a761734e7e9caab5686d4aa051491ebecda4dd0470490540c", func := "armistice/armisticelaw05.StateAgain", spec := "stateAgain", inPlace := ["internal/bytealg.IndexByteString", "internal/bytealg.IndexString"], unfollowed := true, recurses := true, named := ["armistice/state.words", "internal/bytealg.MaxLen"], apart := false, laid := [("armistice/state.words", laid_armistice_state_words)], narrowed := true }
def StateAgainUptoSaid : Prop := stateAgainUptoRow.holds Tryd.pinned (OpenSpec.upto stateAgainSpec)

end Rows
end Go.Proofs.YtbenfdbjpefegaaDoor
