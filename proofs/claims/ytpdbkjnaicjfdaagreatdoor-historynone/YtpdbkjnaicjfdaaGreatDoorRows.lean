/-
  NARROWER THAN 'FOR EVERY INPUT', by the rows' own cells (each row's printed sentence says how): HistoryChecks: laid · HistoryDesks: laid · HistoryNone: laid · HistoryKnown: laid · HistoryBegins: laid · HistoryWithout: laid · HistoryOver: laid · GrammarTwo: laid.
  DERIVED. THE GIVEN ROWS OF THIS SEAT. 8 by the template 'for every input the law returns true; each argument reads behind the call as it read before'; 0 by the template 'total and deterministic' (their statements: YtpdbkjnaicjfdaaGreatDoorTotals.lean).
  GIVEN WITH THE SEED: the statements are not yours to turn. If you find one false, say at which input.
  Laid BY PROGRAM, IN A SANDBOX (cutbox-rows.mjs): the forced cells as the released guide's own fill.sh prints them over the translation 5ba7aa171d0f3928… (all of the seat's roots in one cut). By AI agents, Wed Nov 11 2026. No macro, syntax, notation, axiom, sorry.
-/
import Derived.Test.YtpdbkjnaicjfdaaGreatDoorChecked
import GoSem.Claim
import GoSem.ClaimJoined
import GoSem.ClaimMapViews
import Derived.JoinedTies
import Derived.KernelRfl
namespace Go.Proofs.YtpdbkjnaicjfdaaGreatDoor
/- THE CELL 'sum', in the pinned program and in every row, IS THE sha256 OF THE DUMP (.gsa) THAT YtpdbkjnaicjfdaaGreatDoorProg.lean LOADS. Nothing in Lean hashes anything: it is a label: what it is worth is what the hold of that sum in a sandbox is worth. -/
noncomputable def Tryz.pinned : Pinned := { name := "ytpdbkjnaicjfdaagreatdoor", sum := "5ba7aa171d0f3928decd7fbc7b9bc5e96163205ee3ce710792e6f2cbbedae918", checked := Tryz.checked }
namespace Rows
def none {H : Type} : Left H := { results := [], args := [] }

/- WHAT THE LISTED PACKAGE-LEVEL VARIABLES READ AS WHEN THE CALL BEGINS. Each datum BY PROGRAM (the guide's laid-datum.mjs) off the statement by which the dump's own 'gosem.cut.vars' lays the variable. In a bare row this is a premise. The card (YtpdbkjnaicjfdaaGreatDoorCards.lean) ties it to the program's text. -/
def laid_armistice_state_words {H : Type} : DataW H := .agg [.lit (.string []), .lit (.string [99, 111, 117, 110, 116, 101, 114]), .lit (.string [115, 101, 116]), .lit (.string [109, 97, 112]), .lit (.string [113, 117, 101, 117, 101]), .lit (.string [101, 115, 99, 114, 111, 119])]
def laid_armistice_grammar_words {H : Type} : DataW H := .agg [.lit (.string []), .lit (.string [111, 98, 106, 101, 99, 116]), .lit (.string [98, 101, 103, 105, 110]), .lit (.string [111, 112]), .lit (.string [99, 111, 109, 109, 105, 116]), .lit (.string [97, 98, 111, 114, 116])]

/-- 'armisticelaw13.HistoryChecks': WHATEVER THE INPUT: true; the input reads as it did. -/
def historyChecksSpec : ChangeSpec := { name := "historyChecks", fn := fun _ => fun
  | [d] => { results := [.lit (.bool true)], args := [d] }
  | _ => none }
def historyChecksRow : OpenClaim := { program := "ytpdbkjnaicjfdaagreatdoor", sum := "5ba7aa171d0f3928decd7fbc7b9bc5e96163205ee3ce710792e6f2cbbedae918", func := "armistice/armisticelaw13.HistoryChecks", spec := "historyChecks", inPlace := ["internal/bytealg.IndexByteString", "internal/bytealg.IndexString"], unfollowed := true, recurses := true, named := ["armistice/grammar.words", "internal/bytealg.MaxLen", "armistice/state.words"], apart := false, laid := [("armistice/state.words", laid_armistice_state_words), ("armistice/grammar.words", laid_armistice_grammar_words)] }
def HistoryChecksSaid : Prop := historyChecksRow.holds Tryz.pinned (OpenSpec.ofChange historyChecksSpec)

/-- ITS FALSE NEIGHBOUR: 'it returns false'. Refute it at one input. -/
def historyChecksWrong : ChangeSpec := { name := "historyChecks", fn := fun _ => fun
  | [d] => { results := [.lit (.bool false)], args := [d] }
  | _ => none }
def HistoryChecksWrongFalsely : Prop := historyChecksRow.holds Tryz.pinned (OpenSpec.ofChange historyChecksWrong)

/-- 'armisticelaw13.HistoryDesks': WHATEVER THE INPUT: true; the input reads as it did. -/
def historyDesksSpec : ChangeSpec := { name := "historyDesks", fn := fun _ => fun
  | [d1, d2] => { results := [.lit (.bool true)], args := [d1, d2] }
  | _ => none }
def historyDesksRow : OpenClaim := { program := "ytpdbkjnaicjfdaagreatdoor", sum := "5ba7aa171d0f3928decd7fbc7b9bc5e96163205ee3ce710792e6f2cbbedae918", func := "armistice/armisticelaw13.HistoryDesks", spec := "historyDesks", inPlace := ["internal/bytealg.IndexByteString", "internal/bytealg.IndexString"], unfollowed := true, recurses := true, named := ["armistice/grammar.words", "internal/bytealg.MaxLen", "armistice/state.words"], apart := false, laid := [("armistice/state.words", laid_armistice_state_words), ("armistice/grammar.words", laid_armistice_grammar_words)] }
def HistoryDesksSaid : Prop := historyDesksRow.holds Tryz.pinned (OpenSpec.ofChange historyDesksSpec)

/-- ITS FALSE NEIGHBOUR: 'it returns false'. Refute it at one input. -/
def historyDesksWrong : ChangeSpec := { name := "historyDesks", fn := fun _ => fun
  | [d1, d2] => { results := [.lit (.bool false)], args := [d1, d2] }
  | _ => none }
def HistoryDesksWrongFalsely : Prop := historyDesksRow.holds Tryz.pinned (OpenSpec.ofChange historyDesksWrong)

/-- 'armisticelaw13.HistoryNone': WHATEVER THE INPUT: true; the input reads as it did. -/
def historyNoneSpec : ChangeSpec := { name := "historyNone", fn := fun _ => fun
  | [d1, d2] => { results := [.lit (.bool true)], args := [d1, d2] }
  | _ => none }
def historyNoneRow : OpenClaim := { program := "ytpdbkjnaicjfdaagreatdoor", sum := "5ba7aa171d0f3928decd7fbc7b9bc5e96163205ee3ce710792e6f2cbbedae918", func := "armistice/armisticelaw13.HistoryNone", spec := "historyNone", inPlace := ["internal/bytealg.IndexByteString", "internal/bytealg.IndexString"], unfollowed := true, recurses := true, named := ["armistice/grammar.words", "internal/bytealg.MaxLen", "armistice/state.words"], apart := false, laid := [("armistice/state.words", laid_armistice_state_words), ("armistice/grammar.words", laid_armistice_grammar_words)] }
def HistoryNoneSaid : Prop := historyNoneRow.holds Tryz.pinned (OpenSpec.ofChange historyNoneSpec)

/-- ITS FALSE NEIGHBOUR: 'it returns false'. Refute it at one input. -/
def historyNoneWrong : ChangeSpec := { name := "historyNone", fn := fun _ => fun
  | [d1, d2] => { results := [.lit (.bool false)], args := [d1, d2] }
  | _ => none }
def HistoryNoneWrongFalsely : Prop := historyNoneRow.holds Tryz.pinned (OpenSpec.ofChange historyNoneWrong)

/-- 'armisticelaw13.HistoryKnown': WHATEVER THE INPUT: true; the input reads as it did. -/
def historyKnownSpec : ChangeSpec := { name := "historyKnown", fn := fun _ => fun
  | [] => { results := [.lit (.bool true)], args := [] }
  | _ => none }
def historyKnownRow : OpenClaim := { program := "ytpdbkjnaicjfdaagreatdoor", sum := "5ba7aa171d0f3928decd7fbc7b9bc5e96163205ee3ce710792e6f2cbbedae918", func := "armistice/armisticelaw13.HistoryKnown", spec := "historyKnown", inPlace := ["internal/bytealg.IndexByteString", "internal/bytealg.IndexString"], unfollowed := true, recurses := true, named := ["armistice/grammar.words", "internal/bytealg.MaxLen", "armistice/state.words"], apart := false, laid := [("armistice/state.words", laid_armistice_state_words), ("armistice/grammar.words", laid_armistice_grammar_words)] }
def HistoryKnownSaid : Prop := historyKnownRow.holds Tryz.pinned (OpenSpec.ofChange historyKnownSpec)

/-- ITS FALSE NEIGHBOUR: 'it returns false'. Refute it at one input. -/
def historyKnownWrong : ChangeSpec := { name := "historyKnown", fn := fun _ => fun
  | [] => { results := [.lit (.bool false)], args := [] }
  | _ => none }
def HistoryKnownWrongFalsely : Prop := historyKnownRow.holds Tryz.pinned (OpenSpec.ofChange historyKnownWrong)

/-- 'armisticelaw13.HistoryBegins': WHATEVER THE INPUT: true; the input reads as it did. -/
def historyBeginsSpec : ChangeSpec := { name := "historyBegins", fn := fun _ => fun
  | [d1, d2] => { results := [.lit (.bool true)], args := [d1, d2] }
  | _ => none }
def historyBeginsRow : OpenClaim := { program := "ytpdbkjnaicjfdaagreatdoor", sum := "5ba7aa171d0f3928decd7fbc7b9bc5e96163205ee3ce710792e6f2cbbedae918", func := "armistice/armisticelaw13.HistoryBegins", spec := "historyBegins", inPlace := ["internal/bytealg.IndexByteString", "internal/bytealg.IndexString"], unfollowed := true, recurses := true, named := ["armistice/grammar.words", "internal/bytealg.MaxLen", "armistice/state.words"], apart := false, laid := [("armistice/state.words", laid_armistice_state_words), ("armistice/grammar.words", laid_armistice_grammar_words)] }
def HistoryBeginsSaid : Prop := historyBeginsRow.holds Tryz.pinned (OpenSpec.ofChange historyBeginsSpec)

/-- ITS FALSE NEIGHBOUR: 'it returns false'. Refute it at one input. -/
def historyBeginsWrong : ChangeSpec := { name := "historyBegins", fn := fun _ => fun
  | [d1, d2] => { results := [.lit (.bool false)], args := [d1, d2] }
  | _ => none }
def HistoryBeginsWrongFalsely : Prop := historyBeginsRow.holds Tryz.pinned (OpenSpec.ofChange historyBeginsWrong)

/-- 'armisticelaw13.HistoryWithout': WHATEVER THE INPUT: true; the input reads as it did. -/
def historyWithoutSpec : ChangeSpec := { name := "historyWithout", fn := fun _ => fun
  | [d1, d2] => { results := [.lit (.bool true)], args := [d1, d2] }
  | _ => none }
def historyWithoutRow : OpenClaim := { program := "ytpdbkjnaicjfdaagreatdoor", sum := "5ba7aa171d0f3928decd7fbc7b9bc5e96163205ee3ce710792e6f2cbbedae918", func := "armistice/armisticelaw13.HistoryWithout", spec := "historyWithout", inPlace := ["internal/bytealg.IndexByteString", "internal/bytealg.IndexString"], unfollowed := true, recurses := true, named := ["armistice/grammar.words", "internal/bytealg.MaxLen", "armistice/state.words"], apart := false, laid := [("armistice/state.words", laid_armistice_state_words), ("armistice/grammar.words", laid_armistice_grammar_words)] }
def HistoryWithoutSaid : Prop := historyWithoutRow.holds Tryz.pinned (OpenSpec.ofChange historyWithoutSpec)

/-- ITS FALSE NEIGHBOUR: 'it returns false'. Refute it at one input. -/
def historyWithoutWrong : ChangeSpec := { name := "historyWithout", fn := fun _ => fun
  | [d1, d2] => { results := [.lit (.bool false)], args := [d1, d2] }
  | _ => none }
def HistoryWithoutWrongFalsely : Prop := historyWithoutRow.holds Tryz.pinned (OpenSpec.ofChange historyWithoutWrong)

/-- 'armisticelaw13.HistoryOver': WHATEVER THE INPUT: true; the input reads as it did. -/
def historyOverSpec : ChangeSpec := { name := "historyOver", fn := fun _ => fun
  | [d1, d2] => { results := [.lit (.bool true)], args := [d1, d2] }
  | _ => none }
def historyOverRow : OpenClaim := { program := "ytpdbkjnaicjfdaagreatdoor", sum := "5ba7aa171d0f3928decd7fbc7b9bc5e96163205ee3ce710792e6f2cbbedae918", func := "armistice/armisticelaw13.HistoryOver", spec := "historyOver", inPlace := ["internal/bytealg.IndexByteString", "internal/bytealg.IndexString"], unfollowed := true, recurses := true, named := ["armistice/grammar.words", "internal/bytealg.MaxLen", "armistice/state.words"], apart := false, laid := [("armistice/state.words", laid_armistice_state_words), ("armistice/grammar.words", laid_armistice_grammar_words)] }
def HistoryOverSaid : Prop := historyOverRow.holds Tryz.pinned (OpenSpec.ofChange historyOverSpec)

/-- ITS FALSE NEIGHBOUR: 'it returns false'. Refute it at one input. -/
def historyOverWrong : ChangeSpec := { name := "historyOver", fn := fun _ => fun
  | [d1, d2] => { results := [.lit (.bool false)], args := [d1, d2] }
  | _ => none }
def HistoryOverWrongFalsely : Prop := historyOverRow.holds Tryz.pinned (OpenSpec.ofChange historyOverWrong)

/-- 'armisticelaw12.GrammarTwo': WHATEVER THE INPUT: true; the input reads as it did. -/
def grammarTwoSpec : ChangeSpec := { name := "grammarTwo", fn := fun _ => fun
  | [d1, d2] => { results := [.lit (.bool true)], args := [d1, d2] }
  | _ => none }
def grammarTwoRow : OpenClaim := { program := "ytpdbkjnaicjfdaagreatdoor", sum := "5ba7aa171d0f3928decd7fbc7b9bc5e96163205ee3ce710792e6f2cbbedae918", func := "armistice/armisticelaw12.GrammarTwo", spec := "grammarTwo", inPlace := ["internal/bytealg.IndexByteString", "internal/bytealg.IndexString"], unfollowed := true, recurses := true, named := ["armistice/grammar.words", "internal/bytealg.MaxLen", "armistice/state.words"], apart := false, laid := [("armistice/state.words", laid_armistice_state_words), ("armistice/grammar.words", laid_armistice_grammar_words)] }
def GrammarTwoSaid : Prop := grammarTwoRow.holds Tryz.pinned (OpenSpec.ofChange grammarTwoSpec)

/-- ITS FALSE NEIGHBOUR: 'it returns false'. Refute it at one input. -/
def grammarTwoWrong : ChangeSpec := { name := "grammarTwo", fn := fun _ => fun
  | [d1, d2] => { results := [.lit (.bool false)], args := [d1, d2] }
  | _ => none }
def GrammarTwoWrongFalsely : Prop := grammarTwoRow.holds Tryz.pinned (OpenSpec.ofChange grammarTwoWrong)

/- THE SECOND FORM. 'bulk': how many values and letters a reading holds, each counted each time it is reached (what is shared counts as often as it is met; a slice's spare places count too). A statement '..UptoSaid' is the law's where the arguments, and the package variables that the reading takes, are together of bulk at most 1048576: NARROWER than '..Said'. Prove '..Said' where nothing that the law and all that it calls make is longer than what came in: it says more and counts as full. Else prove '..UptoSaid'. A law counts once. -/
mutual
def uptoBulk {H : Type} : DataW H → Nat
  | .lit (.string bytes) => bytes.length + 1
  | .lit _ => 1
  | .nil => 1
  | .ptr d => uptoBulk d + 1
  | .slice elems spare => uptoBulkAll elems + uptoBulkAll spare + 1
  | .agg parts => uptoBulkAll parts + 1
  | .iface _ d => uptoBulk d + 1
  | .map entries => uptoBulkEntries entries + 1
  | .held _ => 1
def uptoBulkAll {H : Type} : List (DataW H) → Nat
  | [] => 0
  | d :: r => uptoBulk d + uptoBulkAll r
def uptoBulkEntries {H : Type} : List (Lit × DataW H) → Nat
  | [] => 0
  | x :: r => uptoBulkEntry x + uptoBulkEntries r
def uptoBulkEntry {H : Type} : Lit × DataW H → Nat
  | (.string bytes, d) => bytes.length + uptoBulk d + 1
  | (_, d) => uptoBulk d + 1
 end
def uptoSmall : (H : Type) → List (DataW H) → Bool := fun _ ds => decide (uptoBulkAll ds ≤ 1048576)
def OpenSpec.upto (s : _root_.Go.ChangeSpec) : _root_.Go.OpenSpec := { _root_.Go.OpenSpec.ofChange s with cond := some uptoSmall }

/-- 'armisticelaw13.HistoryChecks', WHERE WHAT IT READS IS OF BULK AT MOST 1048576: true; the input reads as it did. -/
def historyChecksUptoRow : OpenClaim := { program := "ytpdbkjnaicjfdaagreatdoor", sum := "5ba7aa171d0f3928decd7fbc7b9bc5e96163205ee3ce710792e6f2cbbedae918", func := "armistice/armisticelaw13.HistoryChecks", spec := "historyChecks", inPlace := ["internal/bytealg.IndexByteString", "internal/bytealg.IndexString"], unfollowed := true, recurses := true, named := ["armistice/grammar.words", "internal/bytealg.MaxLen", "armistice/state.words"], apart := false, laid := [("armistice/state.words", laid_armistice_state_words), ("armistice/grammar.words", laid_armistice_grammar_words)], narrowed := true }
def HistoryChecksUptoSaid : Prop := historyChecksUptoRow.holds Tryz.pinned (OpenSpec.upto historyChecksSpec)

/-- 'armisticelaw13.HistoryDesks', WHERE WHAT IT READS IS OF BULK AT MOST 1048576: true; the input reads as it did. -/
def historyDesksUptoRow : OpenClaim := { program := "ytpdbkjnaicjfdaagreatdoor", sum := "5ba7aa171d0f3928decd7fbc7b9bc5e96163205ee3ce710792e6f2cbbedae918", func := "armistice/armisticelaw13.HistoryDesks", spec := "historyDesks", inPlace := ["internal/bytealg.IndexByteString", "internal/bytealg.IndexString"], unfollowed := true, recurses := true, named := ["armistice/grammar.words", "internal/bytealg.MaxLen", "armistice/state.words"], apart := false, laid := [("armistice/state.words", laid_armistice_state_words), ("armistice/grammar.words", laid_armistice_grammar_words)], narrowed := true }
def HistoryDesksUptoSaid : Prop := historyDesksUptoRow.holds Tryz.pinned (OpenSpec.upto historyDesksSpec)

/-- 'armisticelaw13.HistoryNone', WHERE WHAT IT READS IS OF BULK AT MOST 1048576: true; the input reads as it did. -/
def historyNoneUptoRow : OpenClaim := { program := "ytpdbkjnaicjfdaagreatdoor", sum := "5ba7aa171d0f3928decd7fbc7b9bc5e96163205ee3ce710792e6f2cbbedae918", func := "armistice/armisticelaw13.HistoryNone", spec := "historyNone", inPlace := ["internal/bytealg.IndexByteString", "internal/bytealg.IndexString"], unfollowed := true, recurses := true, named := ["armistice/grammar.words", "internal/bytealg.MaxLen", "armistice/state.words"], apart := false, laid := [("armistice/state.words", laid_armistice_state_words), ("armistice/grammar.words", laid_armistice_grammar_words)], narrowed := true }
def HistoryNoneUptoSaid : Prop := historyNoneUptoRow.holds Tryz.pinned (OpenSpec.upto historyNoneSpec)

/-- 'armisticelaw13.HistoryKnown', WHERE WHAT IT READS IS OF BULK AT MOST 1048576: true; the input reads as it did. -/
def historyKnownUptoRow : OpenClaim := { program := "ytpdbkjnaicjfdaagreatdoor", sum := "5ba7aa171d0f3928decd7fbc7b9bc5e96163205ee3ce710792e6f2cbbedae918", func := "armistice/armisticelaw13.HistoryKnown", spec := "historyKnown", inPlace := ["internal/bytealg.IndexByteString", "internal/bytealg.IndexString"], unfollowed := true, recurses := true, named := ["armistice/grammar.words", "internal/bytealg.MaxLen", "armistice/state.words"], apart := false, laid := [("armistice/state.words", laid_armistice_state_words), ("armistice/grammar.words", laid_armistice_grammar_words)], narrowed := true }
def HistoryKnownUptoSaid : Prop := historyKnownUptoRow.holds Tryz.pinned (OpenSpec.upto historyKnownSpec)

/-- 'armisticelaw13.HistoryBegins', WHERE WHAT IT READS IS OF BULK AT MOST 1048576: true; the input reads as it did. -/
def historyBeginsUptoRow : OpenClaim := { program := "ytpdbkjnaicjfdaagreatdoor", sum := "5ba7aa171d0f3928decd7fbc7b9bc5e96163205ee3ce710792e6f2cbbedae918", func := "armistice/armisticelaw13.HistoryBegins", spec := "historyBegins", inPlace := ["internal/bytealg.IndexByteString", "internal/bytealg.IndexString"], unfollowed := true, recurses := true, named := ["armistice/grammar.words", "internal/bytealg.MaxLen", "armistice/state.words"], apart := false, laid := [("armistice/state.words", laid_armistice_state_words), ("armistice/grammar.words", laid_armistice_grammar_words)], narrowed := true }
def HistoryBeginsUptoSaid : Prop := historyBeginsUptoRow.holds Tryz.pinned (OpenSpec.upto historyBeginsSpec)

/-- 'armisticelaw13.HistoryWithout', WHERE WHAT IT READS IS OF BULK AT MOST 1048576: true; the input reads as it did. -/
def historyWithoutUptoRow : OpenClaim := { program := "ytpdbkjnaicjfdaagreatdoor", sum := "5ba7aa171d0f3928decd7fbc7b9bc5e96163205ee3ce710792e6f2cbbedae918", func := "armistice/armisticelaw13.HistoryWithout", spec := "historyWithout", inPlace := ["internal/bytealg.IndexByteString", "internal/bytealg.IndexString"], unfollowed := true, recurses := true, named := ["armistice/grammar.words", "internal/bytealg.MaxLen", "armistice/state.words"], apart := false, laid := [("armistice/state.words", laid_armistice_state_words), ("armistice/grammar.words", laid_armistice_grammar_words)], narrowed := true }
def HistoryWithoutUptoSaid : Prop := historyWithoutUptoRow.holds Tryz.pinned (OpenSpec.upto historyWithoutSpec)

/-- 'armisticelaw13.HistoryOver', WHERE WHAT IT READS IS OF BULK AT MOST 1048576: true; the input reads as it did. -/
def historyOverUptoRow : OpenClaim := { program := "ytpdbkjnaicjfdaagreatdoor", sum := "5ba7aa171d0f3928decd7fbc7b9bc5e96163205ee3ce710792e6f2cbbedae918", func := "armistice/armisticelaw13.HistoryOver", spec := "historyOver", inPlace := ["internal/bytealg.IndexByteString", "internal/bytealg.IndexString"], unfollowed := true, recurses := true, named := ["armistice/grammar.words", "internal/bytealg.MaxLen", "armistice/state.words"], apart := false, laid := [("armistice/state.words", laid_armistice_state_words), ("armistice/grammar.words", laid_armistice_grammar_words)], narrowed := true }
def HistoryOverUptoSaid : Prop := historyOverUptoRow.holds Tryz.pinned (OpenSpec.upto historyOverSpec)

/-- 'armisticelaw12.GrammarTwo', WHERE WHAT IT READS IS OF BULK AT MOST 1048576: true; the input reads as it did. -/
def grammarTwoUptoRow : OpenClaim := { program := "ytpdbkjnaicjfdaagreatdoor", sum := "5ba7aa171d0f3928decd7fbc7b9bc5e96163205ee3ce710792e6f2cbbedae918", func := "armistice/armisticelaw12.GrammarTwo", spec := "grammarTwo", inPlace := ["internal/bytealg.IndexByteString", "internal/bytealg.IndexString"], unfollowed := true, recurses := true, named := ["armistice/grammar.words", "internal/bytealg.MaxLen", "armistice/state.words"], apart := false, laid := [("armistice/state.words", laid_armistice_state_words), ("armistice/grammar.words", laid_armistice_grammar_words)], narrowed := true }
def GrammarTwoUptoSaid : Prop := grammarTwoUptoRow.holds Tryz.pinned (OpenSpec.upto grammarTwoSpec)

end Rows
end Go.Proofs.YtpdbkjnaicjfdaaGreatDoor
