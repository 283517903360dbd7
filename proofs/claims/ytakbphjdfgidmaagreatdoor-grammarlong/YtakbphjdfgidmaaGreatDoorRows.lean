/-
  NARROWER THAN 'FOR EVERY INPUT', by the rows' own cells (each row's printed sentence says how): GrammarPrints: laid · GrammarParses: laid · GrammarLong: laid · GrammarKnown: laid · GrammarBack: laid · GrammarOne: laid · GrammarTwo: laid.
  DERIVED. THE GIVEN ROWS OF THIS SEAT. 7 by the template 'for every input the law returns true; each argument reads behind the call as it read before'; 0 by the template 'total and deterministic' (their statements: YtakbphjdfgidmaaGreatDoorTotals.lean).
  GIVEN WITH THE SEED: the statements are not yours to turn. If you find one false, say at which input.
  Laid BY PROGRAM, IN A SANDBOX (cutbox-rows.mjs): the forced cells as the released guide's own fill.sh prints them over the translation 3a6a5b3acff81bb9… (all of the seat's roots in one cut). By AI agents, Wed Nov 11 2026. No macro, syntax, notation, axiom, sorry.
-/
import Derived.Test.YtakbphjdfgidmaaGreatDoorChecked
import GoSem.Claim
import GoSem.ClaimJoined
import GoSem.ClaimMapViews
import Derived.JoinedTies
import Derived.KernelRfl
namespace Go.Proofs.YtakbphjdfgidmaaGreatDoor
/- THE CELL 'sum', in the pinned program and in every row, IS THE sha256 OF THE DUMP (.gsa) THAT YtakbphjdfgidmaaGreatDoorProg.lean LOADS. Nothing in Lean hashes anything: it is a label: what it is worth is what the hold of that sum in a sandbox is worth. -/
noncomputable def Tryz.pinned : Pinned := { name := "ytakbphjdfgidmaagreatdoor", sum := "3a6a5b3acff81bb93bf648be3010bb8ea328ecbcceedd32707c97628941a97f6", checked := Tryz.checked }
namespace Rows
def none {H : Type} : Left H := { results := [], args := [] }

/- WHAT THE LISTED PACKAGE-LEVEL VARIABLES READ AS WHEN THE CALL BEGINS. Each datum BY PROGRAM (the guide's laid-datum.mjs) off the statement by which the dump's own 'gosem.cut.vars' lays the variable. In a bare row this is a premise. The card (YtakbphjdfgidmaaGreatDoorCards.lean) ties it to the program's text. -/
def laid_armistice_state_words {H : Type} : DataW H := .agg [.lit (.string []), .lit (.string [99, 111, 117, 110, 116, 101, 114]), .lit (.string [115, 101, 116]), .lit (.string [109, 97, 112]), .lit (.string [113, 117, 101, 117, 101]), .lit (.string [101, 115, 99, 114, 111, 119])]
def laid_armistice_grammar_words {H : Type} : DataW H := .agg [.lit (.string []), .lit (.string [111, 98, 106, 101, 99, 116]), .lit (.string [98, 101, 103, 105, 110]), .lit (.string [111, 112]), .lit (.string [99, 111, 109, 109, 105, 116]), .lit (.string [97, 98, 111, 114, 116])]

/-- 'armisticelaw12.GrammarPrints': WHATEVER THE INPUT: true; the input reads as it did. -/
def grammarPrintsSpec : ChangeSpec := { name := "grammarPrints", fn := fun _ => fun
  | [d] => { results := [.lit (.bool true)], args := [d] }
  | _ => none }
def grammarPrintsRow : OpenClaim := { program := "ytakbphjdfgidmaagreatdoor", sum := "3a6a5b3acff81bb93bf648be3010bb8ea328ecbcceedd32707c97628941a97f6", func := "armistice/armisticelaw12.GrammarPrints", spec := "grammarPrints", inPlace := ["internal/bytealg.IndexByteString", "internal/bytealg.IndexString"], unfollowed := true, recurses := true, named := ["armistice/grammar.words", "internal/bytealg.MaxLen", "armistice/state.words"], apart := false, laid := [("armistice/state.words", laid_armistice_state_words), ("armistice/grammar.words", laid_armistice_grammar_words)] }
def GrammarPrintsSaid : Prop := grammarPrintsRow.holds Tryz.pinned (OpenSpec.ofChange grammarPrintsSpec)

/-- ITS FALSE NEIGHBOUR: 'it returns false'. Refute it at one input. -/
def grammarPrintsWrong : ChangeSpec := { name := "grammarPrints", fn := fun _ => fun
  | [d] => { results := [.lit (.bool false)], args := [d] }
  | _ => none }
def GrammarPrintsWrongFalsely : Prop := grammarPrintsRow.holds Tryz.pinned (OpenSpec.ofChange grammarPrintsWrong)

/-- 'armisticelaw12.GrammarParses': WHATEVER THE INPUT: true; the input reads as it did. -/
def grammarParsesSpec : ChangeSpec := { name := "grammarParses", fn := fun _ => fun
  | [d] => { results := [.lit (.bool true)], args := [d] }
  | _ => none }
def grammarParsesRow : OpenClaim := { program := "ytakbphjdfgidmaagreatdoor", sum := "3a6a5b3acff81bb93bf648be3010bb8ea328ecbcceedd32707c97628941a97f6", func := "armistice/armisticelaw12.GrammarParses", spec := "grammarParses", inPlace := ["internal/bytealg.IndexByteString", "internal/bytealg.IndexString"], unfollowed := true, recurses := true, named := ["armistice/grammar.words", "internal/bytealg.MaxLen", "armistice/state.words"], apart := false, laid := [("armistice/state.words", laid_armistice_state_words), ("armistice/grammar.words", laid_armistice_grammar_words)] }
def GrammarParsesSaid : Prop := grammarParsesRow.holds Tryz.pinned (OpenSpec.ofChange grammarParsesSpec)

/-- ITS FALSE NEIGHBOUR: 'it returns false'. Refute it at one input. -/
def grammarParsesWrong : ChangeSpec := { name := "grammarParses", fn := fun _ => fun
  | [d] => { results := [.lit (.bool false)], args := [d] }
  | _ => none }
def GrammarParsesWrongFalsely : Prop := grammarParsesRow.holds Tryz.pinned (OpenSpec.ofChange grammarParsesWrong)

/-- 'armisticelaw12.GrammarLong': WHATEVER THE INPUT: true; the input reads as it did. -/
def grammarLongSpec : ChangeSpec := { name := "grammarLong", fn := fun _ => fun
  | [d1, d2, d3] => { results := [.lit (.bool true)], args := [d1, d2, d3] }
  | _ => none }
def grammarLongRow : OpenClaim := { program := "ytakbphjdfgidmaagreatdoor", sum := "3a6a5b3acff81bb93bf648be3010bb8ea328ecbcceedd32707c97628941a97f6", func := "armistice/armisticelaw12.GrammarLong", spec := "grammarLong", inPlace := ["internal/bytealg.IndexByteString", "internal/bytealg.IndexString"], unfollowed := true, recurses := true, named := ["armistice/grammar.words", "internal/bytealg.MaxLen", "armistice/state.words"], apart := false, laid := [("armistice/state.words", laid_armistice_state_words), ("armistice/grammar.words", laid_armistice_grammar_words)] }
def GrammarLongSaid : Prop := grammarLongRow.holds Tryz.pinned (OpenSpec.ofChange grammarLongSpec)

/-- ITS FALSE NEIGHBOUR: 'it returns false'. Refute it at one input. -/
def grammarLongWrong : ChangeSpec := { name := "grammarLong", fn := fun _ => fun
  | [d1, d2, d3] => { results := [.lit (.bool false)], args := [d1, d2, d3] }
  | _ => none }
def GrammarLongWrongFalsely : Prop := grammarLongRow.holds Tryz.pinned (OpenSpec.ofChange grammarLongWrong)

/-- 'armisticelaw12.GrammarKnown': WHATEVER THE INPUT: true; the input reads as it did. -/
def grammarKnownSpec : ChangeSpec := { name := "grammarKnown", fn := fun _ => fun
  | [] => { results := [.lit (.bool true)], args := [] }
  | _ => none }
def grammarKnownRow : OpenClaim := { program := "ytakbphjdfgidmaagreatdoor", sum := "3a6a5b3acff81bb93bf648be3010bb8ea328ecbcceedd32707c97628941a97f6", func := "armistice/armisticelaw12.GrammarKnown", spec := "grammarKnown", inPlace := ["internal/bytealg.IndexByteString", "internal/bytealg.IndexString"], unfollowed := true, recurses := true, named := ["armistice/grammar.words", "internal/bytealg.MaxLen", "armistice/state.words"], apart := false, laid := [("armistice/state.words", laid_armistice_state_words), ("armistice/grammar.words", laid_armistice_grammar_words)] }
def GrammarKnownSaid : Prop := grammarKnownRow.holds Tryz.pinned (OpenSpec.ofChange grammarKnownSpec)

/-- ITS FALSE NEIGHBOUR: 'it returns false'. Refute it at one input. -/
def grammarKnownWrong : ChangeSpec := { name := "grammarKnown", fn := fun _ => fun
  | [] => { results := [.lit (.bool false)], args := [] }
  | _ => none }
def GrammarKnownWrongFalsely : Prop := grammarKnownRow.holds Tryz.pinned (OpenSpec.ofChange grammarKnownWrong)

/-- 'armisticelaw12.GrammarBack': WHATEVER THE INPUT: true; the input reads as it did. -/
def grammarBackSpec : ChangeSpec := { name := "grammarBack", fn := fun _ => fun
  | [d] => { results := [.lit (.bool true)], args := [d] }
  | _ => none }
def grammarBackRow : OpenClaim := { program := "ytakbphjdfgidmaagreatdoor", sum := "3a6a5b3acff81bb93bf648be3010bb8ea328ecbcceedd32707c97628941a97f6", func := "armistice/armisticelaw12.GrammarBack", spec := "grammarBack", inPlace := ["internal/bytealg.IndexByteString", "internal/bytealg.IndexString"], unfollowed := true, recurses := true, named := ["armistice/grammar.words", "internal/bytealg.MaxLen", "armistice/state.words"], apart := false, laid := [("armistice/state.words", laid_armistice_state_words), ("armistice/grammar.words", laid_armistice_grammar_words)] }
def GrammarBackSaid : Prop := grammarBackRow.holds Tryz.pinned (OpenSpec.ofChange grammarBackSpec)

/-- ITS FALSE NEIGHBOUR: 'it returns false'. Refute it at one input. -/
def grammarBackWrong : ChangeSpec := { name := "grammarBack", fn := fun _ => fun
  | [d] => { results := [.lit (.bool false)], args := [d] }
  | _ => none }
def GrammarBackWrongFalsely : Prop := grammarBackRow.holds Tryz.pinned (OpenSpec.ofChange grammarBackWrong)

/-- 'armisticelaw12.GrammarOne': WHATEVER THE INPUT: true; the input reads as it did. -/
def grammarOneSpec : ChangeSpec := { name := "grammarOne", fn := fun _ => fun
  | [d] => { results := [.lit (.bool true)], args := [d] }
  | _ => none }
def grammarOneRow : OpenClaim := { program := "ytakbphjdfgidmaagreatdoor", sum := "3a6a5b3acff81bb93bf648be3010bb8ea328ecbcceedd32707c97628941a97f6", func := "armistice/armisticelaw12.GrammarOne", spec := "grammarOne", inPlace := ["internal/bytealg.IndexByteString", "internal/bytealg.IndexString"], unfollowed := true, recurses := true, named := ["armistice/grammar.words", "internal/bytealg.MaxLen", "armistice/state.words"], apart := false, laid := [("armistice/state.words", laid_armistice_state_words), ("armistice/grammar.words", laid_armistice_grammar_words)] }
def GrammarOneSaid : Prop := grammarOneRow.holds Tryz.pinned (OpenSpec.ofChange grammarOneSpec)

/-- ITS FALSE NEIGHBOUR: 'it returns false'. Refute it at one input. -/
def grammarOneWrong : ChangeSpec := { name := "grammarOne", fn := fun _ => fun
  | [d] => { results := [.lit (.bool false)], args := [d] }
  | _ => none }
def GrammarOneWrongFalsely : Prop := grammarOneRow.holds Tryz.pinned (OpenSpec.ofChange grammarOneWrong)

/-- 'armisticelaw12.GrammarTwo': WHATEVER THE INPUT: true; the input reads as it did. -/
def grammarTwoSpec : ChangeSpec := { name := "grammarTwo", fn := fun _ => fun
  | [d1, d2] => { results := [.lit (.bool true)], args := [d1, d2] }
  | _ => none }
def grammarTwoRow : OpenClaim := { program := "ytakbphjdfgidmaagreatdoor", sum := "3a6a5b3acff81bb93bf648be3010bb8ea328ecbcceedd32707c97628941a97f6", func := "armistice/armisticelaw12.GrammarTwo", spec := "grammarTwo", inPlace := ["internal/bytealg.IndexByteString", "internal/bytealg.IndexString"], unfollowed := true, recurses := true, named := ["armistice/grammar.words", "internal/bytealg.MaxLen", "armistice/state.words"], apart := false, laid := [("armistice/state.words", laid_armistice_state_words), ("armistice/grammar.words", laid_armistice_grammar_words)] }
def GrammarTwoSaid : Prop := grammarTwoRow.holds Tryz.pinned (OpenSpec.ofChange grammarTwoSpec)

/-- ITS FALSE NEIGHBOUR: 'it returns false'. Refute it at one input. -/
def grammarTwoWrong : ChangeSpec := { name := "grammarTwo", fn := fun _ => fun
  | [d1, d2] => { results := [.lit (.bool false)], args := [d1, d2] }
  | _ => none }
def GrammarTwoWrongFalsely : Prop := grammarTwoRow.holds Tryz.pinned (OpenSpec.ofChange grammarTwoWrong)

/- THE SECOND FORM. 'bulk': how many values and letters a reading holds, each counted each time it is reached (what is shared counts as often as it is met; a slice's spare places count too). A statement '..UptoSaid' is the law's where the arguments, and the package variables that the reading takes, are together of bulk at most 1048576: NARROWER than '..Said'. Prove '..Said' where nothing that the law and all that it calls make is longer than what came in: it says more and counts as full. Else prove '..UptoSaid'. A law counts once. -/
mutual
def uptoBulk {H : Type} : DataW H → Nat
  | .lit (.string bytes) => bytes.length + 1
  | .lit _ => 1
  | .nil => 1
  | .ptr d => uptoBulk d + 1
  | .slice elems spare => uptoBulkAll elems + uptoBulkAll spare + 1
  | .agg parts => uptoBulkAll parts + 1
  | .iface _ d => uptoBulk d + 1
  | .map entries => uptoBulkEntries entries + 1
  | .held _ => 1
def uptoBulkAll {H : Type} : List (DataW H) → Nat
  | [] => 0
  | d :: r => uptoBulk d + uptoBulkAll r
def uptoBulkEntries {H : Type} : List (Lit × DataW H) → Nat
  | [] => 0
  | x :: r => uptoBulkEntry x + uptoBulkEntries r
def uptoBulkEntry {H : Type} : Lit × DataW H → Nat
  | (.string bytes, d) => bytes.length + uptoBulk d + 1
  | (_, d) => uptoBulk d + 1
 end
def uptoSmall : (H : Type) → List (DataW H) → Bool := fun _ ds => decide (uptoBulkAll ds ≤ 1048576)
def OpenSpec.upto (s : _root_.Go.ChangeSpec) : _root_.Go.OpenSpec := { _root_.Go.OpenSpec.ofChange s with cond := some uptoSmall }

/-- 'armisticelaw12.GrammarPrints', WHERE WHAT IT READS IS OF BULK AT MOST 1048576: true; the input reads as it did. -/
def grammarPrintsUptoRow : OpenClaim := { program := "ytakbphjdfgidmaagreatdoor", sum := "3a6a5b3acff81bb93bf648be3010bb8ea328ecbcceedd32707c97628941a97f6", func := "armistice/armisticelaw12.GrammarPrints", spec := "grammarPrints", inPlace := ["internal/bytealg.IndexByteString", "internal/bytealg.IndexString"], unfollowed := true, recurses := true, named := ["armistice/grammar.words", "internal/bytealg.MaxLen", "armistice/state.words"], apart := false, laid := [("armistice/state.words", laid_armistice_state_words), ("armistice/grammar.words", laid_armistice_grammar_words)], narrowed := true }
def GrammarPrintsUptoSaid : Prop := grammarPrintsUptoRow.holds Tryz.pinned (OpenSpec.upto grammarPrintsSpec)

/-- 'armisticelaw12.GrammarParses', WHERE WHAT IT READS IS OF BULK AT MOST 1048576: true; the input reads as it did. -/
def grammarParsesUptoRow : OpenClaim := { program := "ytakbphjdfgidmaagreatdoor", sum := "3a6a5b3acff81bb93bf648be3010bb8ea328ecbcceedd32707c97628941a97f6", func := "armistice/armisticelaw12.GrammarParses", spec := "grammarParses", inPlace := ["internal/bytealg.IndexByteString", "internal/bytealg.IndexString"], unfollowed := true, recurses := true, named := ["armistice/grammar.words", "internal/bytealg.MaxLen", "armistice/state.words"], apart := false, laid := [("armistice/state.words", laid_armistice_state_words), ("armistice/grammar.words", laid_armistice_grammar_words)], narrowed := true }
def GrammarParsesUptoSaid : Prop := grammarParsesUptoRow.holds Tryz.pinned (OpenSpec.upto grammarParsesSpec)

/-- 'armisticelaw12.GrammarLong', WHERE WHAT IT READS IS OF BULK AT MOST 1048576: true; the input reads as it did. -/
def grammarLongUptoRow : OpenClaim := { program := "ytakbphjdfgidmaagreatdoor", sum := "3a6a5b3acff81bb93bf648be3010bb8ea328ecbcceedd32707c97628941a97f6", func := "armistice/armisticelaw12.GrammarLong", spec := "grammarLong", inPlace := ["internal/bytealg.IndexByteString", "internal/bytealg.IndexString"], unfollowed := true, recurses := true, named := ["armistice/grammar.words", "internal/bytealg.MaxLen", "armistice/state.words"], apart := false, laid := [("armistice/state.words", laid_armistice_state_words), ("armistice/grammar.words", laid_armistice_grammar_words)], narrowed := true }
def GrammarLongUptoSaid : Prop := grammarLongUptoRow.holds Tryz.pinned (OpenSpec.upto grammarLongSpec)

/-- 'armisticelaw12.GrammarKnown', WHERE WHAT IT READS IS OF BULK AT MOST 1048576: true; the input reads as it did. -/
def grammarKnownUptoRow : OpenClaim := { program := "ytakbphjdfgidmaagreatdoor", sum := "3a6a5b3acff81bb93bf648be3010bb8ea328ecbcceedd32707c97628941a97f6", func := "armistice/armisticelaw12.GrammarKnown", spec := "grammarKnown", inPlace := ["internal/bytealg.IndexByteString", "internal/bytealg.IndexString"], unfollowed := true, recurses := true, named := ["armistice/grammar.words", "internal/bytealg.MaxLen", "armistice/state.words"], apart := false, laid := [("armistice/state.words", laid_armistice_state_words), ("armistice/grammar.words", laid_armistice_grammar_words)], narrowed := true }
def GrammarKnownUptoSaid : Prop := grammarKnownUptoRow.holds Tryz.pinned (OpenSpec.upto grammarKnownSpec)

/-- 'armisticelaw12.GrammarBack', WHERE WHAT IT READS IS OF BULK AT MOST 1048576: true; the input reads as it did. -/
def grammarBackUptoRow : OpenClaim := { program := "ytakbphjdfgidmaagreatdoor", sum := "3a6a5b3acff81bb93bf648be3010bb8ea328ecbcceedd32707c97628941a97f6", func := "armistice/armisticelaw12.GrammarBack", spec := "grammarBack", inPlace := ["internal/bytealg.IndexByteString", "internal/bytealg.IndexString"], unfollowed := true, recurses := true, named := ["armistice/grammar.words", "internal/bytealg.MaxLen", "armistice/state.words"], apart := false, laid := [("armistice/state.words", laid_armistice_state_words), ("armistice/grammar.words", laid_armistice_grammar_words)], narrowed := true }
def GrammarBackUptoSaid : Prop := grammarBackUptoRow.holds Tryz.pinned (OpenSpec.upto grammarBackSpec)

/-- 'armisticelaw12.GrammarOne', WHERE WHAT IT READS IS OF BULK AT MOST 1048576: true; the input reads as it did. -/
def grammarOneUptoRow : OpenClaim := { program := "ytakbphjdfgidmaagreatdoor", sum := "3a6a5b3acff81bb93bf648be3010bb8ea328ecbcceedd32707c97628941a97f6", func := "armistice/armisticelaw12.GrammarOne", spec := "grammarOne", inPlace := ["internal/bytealg.IndexByteString", "internal/bytealg.IndexString"], unfollowed := true, recurses := true, named := ["armistice/grammar.words", "internal/bytealg.MaxLen", "armistice/state.words"], apart := false, laid := [("armistice/state.words", laid_armistice_state_words), ("armistice/grammar.words", laid_armistice_grammar_words)], narrowed := true }
def GrammarOneUptoSaid : Prop := grammarOneUptoRow.holds Tryz.pinned (OpenSpec.upto grammarOneSpec)

/-- 'armisticelaw12.GrammarTwo', WHERE WHAT IT READS IS OF BULK AT MOST 1048576: true; the input reads as it did. -/
def grammarTwoUptoRow : OpenClaim := { program := "ytakbphjdfgidmaagreatdoor", sum := "3a6a5b3acff81bb93bf648be3010bb8ea328ecbcceedd32707c97628941a97f6", func := "armistice/armisticelaw12.GrammarTwo", spec := "grammarTwo", inPlace := ["internal/bytealg.IndexByteString", "internal/bytealg.IndexString"], unfollowed := true, recurses := true, named := ["armistice/grammar.words", "internal/bytealg.MaxLen", "armistice/state.words"], apart := false, laid := [("armistice/state.words", laid_armistice_state_words), ("armistice/grammar.words", laid_armistice_grammar_words)], narrowed := true }
def GrammarTwoUptoSaid : Prop := grammarTwoUptoRow.holds Tryz.pinned (OpenSpec.upto grammarTwoSpec)

end Rows
end Go.Proofs.YtakbphjdfgidmaaGreatDoor
