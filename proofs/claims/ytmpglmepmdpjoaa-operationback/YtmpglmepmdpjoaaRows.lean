/-
  No cell of these rows narrows 'for every input' (looked for: loops, veiled, ifaces, maps, wideKeys, modest, calm, conditions, laid).
  DERIVED. THE GIVEN ROWS OF THIS SEAT. 6 by the template 'for every input the law returns true; each argument reads behind the call as it read before'; 0 by the template 'total and deterministic' (their statements: YtmpglmepmdpjoaaTotals.lean).
  GIVEN WITH THE SEED: the statements are not yours to turn. If you find one false, say at which input.
  Laid BY PROGRAM, IN A SANDBOX (cutbox-rows.mjs): the forced cells as the released guide's own fill.sh prints them over the translation 75375286033af840… (all of the seat's roots in one cut). By AI agents, Wed Nov 11 2026. No macro, syntax, notation, axiom, sorry.
-/
import Derived.Test.YtmpglmepmdpjoaaChecked
import GoSem.Claim
import GoSem.ClaimJoined
import GoSem.ClaimMapViews
import Derived.JoinedTies
import Derived.KernelRfl
namespace Go.Proofs.Ytmpglmepmdpjoaa
/- THE CELL 'sum', in the pinned program and in every row, IS THE sha256 OF THE DUMP (.gsa) THAT YtmpglmepmdpjoaaProg.lean LOADS. Nothing in Lean hashes anything: it is a label: what it is worth is what the hold of that sum in a sandbox is worth. -/
noncomputable def Try.pinned : Pinned := { name := "ytmpglmepmdpjoaa", sum := "75375286033af840690c34fe899ec56b2ef0d7e358b78aad2aaab8f830563883", checked := Try.checked }
namespace Rows
def none {H : Type} : Left H := { results := [], args := [] }

/-- 'armisticelaw04.OperationTells': WHATEVER THE INPUT: true; the input reads as it did. -/
def operationTellsSpec : ChangeSpec := { name := "operationTells", fn := fun _ => fun
  | [d1, d2, d3] => { results := [.lit (.bool true)], args := [d1, d2, d3] }
  | _ => none }
def operationTellsRow : OpenClaim := { program := "ytmpglmepmdpjoaa", sum := "75375286033af840690c34fe899ec56b2ef0d7e358b78aad2aaab8f830563883", func := "armistice/armisticelaw04.OperationTells", spec := "operationTells", unfollowed := true, recurses := true, apart := false }
def OperationTellsSaid : Prop := operationTellsRow.holds Try.pinned (OpenSpec.ofChange operationTellsSpec)

/-- ITS FALSE NEIGHBOUR: 'it returns false'. Refute it at one input. -/
def operationTellsWrong : ChangeSpec := { name := "operationTells", fn := fun _ => fun
  | [d1, d2, d3] => { results := [.lit (.bool false)], args := [d1, d2, d3] }
  | _ => none }
def OperationTellsWrongFalsely : Prop := operationTellsRow.holds Try.pinned (OpenSpec.ofChange operationTellsWrong)

/-- 'armisticelaw04.OperationReads': WHATEVER THE INPUT: true; the input reads as it did. -/
def operationReadsSpec : ChangeSpec := { name := "operationReads", fn := fun _ => fun
  | [d] => { results := [.lit (.bool true)], args := [d] }
  | _ => none }
def operationReadsRow : OpenClaim := { program := "ytmpglmepmdpjoaa", sum := "75375286033af840690c34fe899ec56b2ef0d7e358b78aad2aaab8f830563883", func := "armistice/armisticelaw04.OperationReads", spec := "operationReads", unfollowed := true, recurses := true, apart := false }
def OperationReadsSaid : Prop := operationReadsRow.holds Try.pinned (OpenSpec.ofChange operationReadsSpec)

/-- ITS FALSE NEIGHBOUR: 'it returns false'. Refute it at one input. -/
def operationReadsWrong : ChangeSpec := { name := "operationReads", fn := fun _ => fun
  | [d] => { results := [.lit (.bool false)], args := [d] }
  | _ => none }
def OperationReadsWrongFalsely : Prop := operationReadsRow.holds Try.pinned (OpenSpec.ofChange operationReadsWrong)

/-- 'armisticelaw04.OperationKnown': WHATEVER THE INPUT: true; the input reads as it did. -/
def operationKnownSpec : ChangeSpec := { name := "operationKnown", fn := fun _ => fun
  | [] => { results := [.lit (.bool true)], args := [] }
  | _ => none }
def operationKnownRow : OpenClaim := { program := "ytmpglmepmdpjoaa", sum := "75375286033af840690c34fe899ec56b2ef0d7e358b78aad2aaab8f830563883", func := "armistice/armisticelaw04.OperationKnown", spec := "operationKnown", unfollowed := true, recurses := true, apart := false }
def OperationKnownSaid : Prop := operationKnownRow.holds Try.pinned (OpenSpec.ofChange operationKnownSpec)

/-- ITS FALSE NEIGHBOUR: 'it returns false'. Refute it at one input. -/
def operationKnownWrong : ChangeSpec := { name := "operationKnown", fn := fun _ => fun
  | [] => { results := [.lit (.bool false)], args := [] }
  | _ => none }
def OperationKnownWrongFalsely : Prop := operationKnownRow.holds Try.pinned (OpenSpec.ofChange operationKnownWrong)

/-- 'armisticelaw04.OperationBack': WHATEVER THE INPUT: true; the input reads as it did. -/
def operationBackSpec : ChangeSpec := { name := "operationBack", fn := fun _ => fun
  | [d] => { results := [.lit (.bool true)], args := [d] }
  | _ => none }
def operationBackRow : OpenClaim := { program := "ytmpglmepmdpjoaa", sum := "75375286033af840690c34fe899ec56b2ef0d7e358b78aad2aaab8f830563883", func := "armistice/armisticelaw04.OperationBack", spec := "operationBack", unfollowed := true, recurses := true, apart := false }
def OperationBackSaid : Prop := operationBackRow.holds Try.pinned (OpenSpec.ofChange operationBackSpec)

/-- ITS FALSE NEIGHBOUR: 'it returns false'. Refute it at one input. -/
def operationBackWrong : ChangeSpec := { name := "operationBack", fn := fun _ => fun
  | [d] => { results := [.lit (.bool false)], args := [d] }
  | _ => none }
def OperationBackWrongFalsely : Prop := operationBackRow.holds Try.pinned (OpenSpec.ofChange operationBackWrong)

/-- 'armisticelaw04.OperationOnly': WHATEVER THE INPUT: true; the input reads as it did. -/
def operationOnlySpec : ChangeSpec := { name := "operationOnly", fn := fun _ => fun
  | [d] => { results := [.lit (.bool true)], args := [d] }
  | _ => none }
def operationOnlyRow : OpenClaim := { program := "ytmpglmepmdpjoaa", sum := "75375286033af840690c34fe899ec56b2ef0d7e358b78aad2aaab8f830563883", func := "armistice/armisticelaw04.OperationOnly", spec := "operationOnly", unfollowed := true, recurses := true, apart := false }
def OperationOnlySaid : Prop := operationOnlyRow.holds Try.pinned (OpenSpec.ofChange operationOnlySpec)

/-- ITS FALSE NEIGHBOUR: 'it returns false'. Refute it at one input. -/
def operationOnlyWrong : ChangeSpec := { name := "operationOnly", fn := fun _ => fun
  | [d] => { results := [.lit (.bool false)], args := [d] }
  | _ => none }
def OperationOnlyWrongFalsely : Prop := operationOnlyRow.holds Try.pinned (OpenSpec.ofChange operationOnlyWrong)

/-- 'armisticelaw04.OperationKinds': WHATEVER THE INPUT: true; the input reads as it did. -/
def operationKindsSpec : ChangeSpec := { name := "operationKinds", fn := fun _ => fun
  | [d] => { results := [.lit (.bool true)], args := [d] }
  | _ => none }
def operationKindsRow : OpenClaim := { program := "ytmpglmepmdpjoaa", sum := "75375286033af840690c34fe899ec56b2ef0d7e358b78aad2aaab8f830563883", func := "armistice/armisticelaw04.OperationKinds", spec := "operationKinds", unfollowed := true, recurses := true, apart := false }
def OperationKindsSaid : Prop := operationKindsRow.holds Try.pinned (OpenSpec.ofChange operationKindsSpec)

/-- ITS FALSE NEIGHBOUR: 'it returns false'. Refute it at one input. -/
def operationKindsWrong : ChangeSpec := { name := "operationKinds", fn := fun _ => fun
  | [d] => { results := [.lit (.bool false)], args := [d] }
  | _ => none }
def OperationKindsWrongFalsely : Prop := operationKindsRow.holds Try.pinned (OpenSpec.ofChange operationKindsWrong)

/- THE SECOND FORM. 'bulk': how many values and letters a reading holds, each counted each time it is reached (what is shared counts as often as it is met; a slice's spare places count too). A statement '..UptoSaid' is the law's where the arguments, and the package variables that the reading takes, are together of bulk at most 1048576: NARROWER than '..Said'. Prove '..Said' where nothing that the law and all that it calls make is longer than what came in: it says more and counts as full. Else prove '..UptoSaid'. A law counts once. -/
mutual
def uptoBulk {H : Type} : DataW H → Nat
  | .lit (.string bytes) => bytes.length + 1
  | .lit _ => 1
  | .nil => 1
  | .ptr d => uptoBulk d + 1
  | .slice elems spare => uptoBulkAll elems + uptoBulkAll spare + 1
  | .agg parts => uptoBulkAll parts + 1
  | .iface _ d => uptoBulk d + 1
  | .map entries => uptoBulkEntries entries + 1
  | .held _ => 1
def uptoBulkAll {H : Type} : List (DataW H) → Nat
  | [] => 0
  | d :: r => uptoBulk d + uptoBulkAll r
def uptoBulkEntries {H : Type} : List (Lit × DataW H) → Nat
  | [] => 0
  | x :: r => uptoBulkEntry x + uptoBulkEntries r
def uptoBulkEntry {H : Type} : Lit × DataW H → Nat
  | (.string bytes, d) => bytes.length + uptoBulk d + 1
  | (_, d) => uptoBulk d + 1
 end
def uptoSmall : (H : Type) → List (DataW H) → Bool := fun _ ds => decide (uptoBulkAll ds ≤ 1048576)
def OpenSpec.upto (s : _root_.Go.ChangeSpec) : _root_.Go.OpenSpec := { _root_.Go.OpenSpec.ofChange s with cond := some uptoSmall }

/-- 'armisticelaw04.OperationTells', WHERE WHAT IT READS IS OF BULK AT MOST 1048576: true; the input reads as it did. -/
def operationTellsUptoRow : OpenClaim := { program := "ytmpglmepmdpjoaa", sum := "75375286033af840690c34fe899ec56b2ef0d7e358b78aad2aaab8f830563883", func := "armistice/armisticelaw04.OperationTells", spec := "operationTells", unfollowed := true, recurses := true, apart := false, narrowed := true }
def OperationTellsUptoSaid : Prop := operationTellsUptoRow.holds Try.pinned (OpenSpec.upto operationTellsSpec)

/-- 'armisticelaw04.OperationReads', WHERE WHAT IT READS IS OF BULK AT MOST 1048576: true; the input reads as it did. -/
def operationReadsUptoRow : OpenClaim := { program := "ytmpglmepmdpjoaa", sum := "75375286033af840690c34fe899ec56b2ef0d7e358b78aad2aaab8f830563883", func := "armistice/armisticelaw04.OperationReads", spec := "operationReads", unfollowed := true, recurses := true, apart := false, narrowed := true }
def OperationReadsUptoSaid : Prop := operationReadsUptoRow.holds Try.pinned (OpenSpec.upto operationReadsSpec)

/-- 'armisticelaw04.OperationKnown', WHERE WHAT IT READS IS OF BULK AT MOST 1048576: true; the input reads as it did. -/
def operationKnownUptoRow : OpenClaim := { program := "ytmpglmepmdpjoaa", sum := "75375286033af840690c34fe899ec56b2ef0d7e358b78aad2aaab8f830563883", func := "armistice/armisticelaw04.OperationKnown", spec := "operationKnown", unfollowed := true, recurses := true, apart := false, narrowed := true }
def OperationKnownUptoSaid : Prop := operationKnownUptoRow.holds Try.pinned (OpenSpec.upto operationKnownSpec)

/-- 'armisticelaw04.OperationBack', WHERE WHAT IT READS IS OF BULK AT MOST 1048576: true; the input reads as it did. -/
def operationBackUptoRow : OpenClaim := { program := "ytmpglmepmdpjoaa", sum := "75375286033af840690c34fe899ec56b2ef0d7e358b78aad2aaab8f830563883", func := "armistice/armisticelaw04.OperationBack", spec := "operationBack", unfollowed := true, recurses := true, apart := false, narrowed := true }
def OperationBackUptoSaid : Prop := operationBackUptoRow.holds Try.pinned (OpenSpec.upto operationBackSpec)

/-- 'armisticelaw04.OperationOnly', WHERE WHAT IT READS IS OF BULK AT MOST 1048576: true; the input reads as it did. -/
def operationOnlyUptoRow : OpenClaim := { program := "ytmpglmepmdpjoaa", sum := "75375286033af840690c34fe899ec56b2ef0d7e358b78aad2aaab8f830563883", func := "armistice/armisticelaw04.OperationOnly", spec := "operationOnly", unfollowed := true, recurses := true, apart := false, narrowed := true }
def OperationOnlyUptoSaid : Prop := operationOnlyUptoRow.holds Try.pinned (OpenSpec.upto operationOnlySpec)

/-- 'armisticelaw04.OperationKinds', WHERE WHAT IT READS IS OF BULK AT MOST 1048576: true; the input reads as it did. -/
def operationKindsUptoRow : OpenClaim := { program := "ytmpglmepmdpjoaa", sum := "75375286033af840690c34fe899ec56b2ef0d7e358b78aad2aaab8f830563883", func := "armistice/armisticelaw04.OperationKinds", spec := "operationKinds", unfollowed := true, recurses := true, apart := false, narrowed := true }
def OperationKindsUptoSaid : Prop := operationKindsUptoRow.holds Try.pinned (OpenSpec.upto operationKindsSpec)

end Rows
end Go.Proofs.Ytmpglmepmdpjoaa
