/-
  No cell of these rows narrows 'for every input' (looked for: loops, veiled, ifaces, maps, wideKeys, modest, calm, conditions, laid).
  DERIVED. THE GIVEN ROWS OF THIS SEAT. 5 by the template 'for every input the law returns true; each argument reads behind the call as it read before'; 0 by the template 'total and deterministic' (their statements: YtdanihadkchbbaaTotals.lean).
  GIVEN WITH THE SEED: the statements are not yours to turn. If you find one false, say at which input.
  Laid BY PROGRAM, IN A SANDBOX (cutbox-rows.mjs): the forced cells as the released guide's own fill.sh prints them over the translation 536d49960cbc321b… (all of the seat's roots in one cut). By AI agents, Wed Nov 11 2026. No macro, syntax, notation, axiom, sorry.
-/
import Derived.Test.YtdanihadkchbbaaChecked
import GoSem.Claim
import GoSem.ClaimJoined
import GoSem.ClaimMapViews
import Derived.JoinedTies
import Derived.KernelRfl
namespace Go.Proofs.Ytdanihadkchbbaa
/- THE CELL 'sum', in the pinned program and in every row, IS THE sha256 OF THE DUMP (.gsa) THAT YtdanihadkchbbaaProg.lean LOADS. Nothing in Lean hashes anything: it is a label: what it is worth is what the hold of that sum in a sandbox is worth. -/
noncomputable def Try.pinned : Pinned := { name := "ytdanihadkchbbaa", sum := "536d49960cbc321be2e08c4cde0d912a483f91c60fffa3bf951535bdbf2bb52d", checked := Try.checked }
namespace Rows
def none {H : Type} : Left H := { results := [], args := [] }

/-- 'armisticelaw08.MappingLists': WHATEVER THE INPUT: true; the input reads as it did. -/
def mappingListsSpec : ChangeSpec := { name := "mappingLists", fn := fun _ => fun
  | [d1, d2, d3] => { results := [.lit (.bool true)], args := [d1, d2, d3] }
  | _ => none }
def mappingListsRow : OpenClaim := { program := "ytdanihadkchbbaa", sum := "536d49960cbc321be2e08c4cde0d912a483f91c60fffa3bf951535bdbf2bb52d", func := "armistice/armisticelaw08.MappingLists", spec := "mappingLists", unfollowed := true, recurses := true, apart := false }
def MappingListsSaid : Prop := mappingListsRow.holds Try.pinned (OpenSpec.ofChange mappingListsSpec)

/-- ITS FALSE NEIGHBOUR: 'it returns false'. Refute it at one input. -/
def mappingListsWrong : ChangeSpec := { name := "mappingLists", fn := fun _ => fun
  | [d1, d2, d3] => { results := [.lit (.bool false)], args := [d1, d2, d3] }
  | _ => none }
def MappingListsWrongFalsely : Prop := mappingListsRow.holds Try.pinned (OpenSpec.ofChange mappingListsWrong)

/-- 'armisticelaw08.MappingApplies': WHATEVER THE INPUT: true; the input reads as it did. -/
def mappingAppliesSpec : ChangeSpec := { name := "mappingApplies", fn := fun _ => fun
  | [d1, d2, d3, d4] => { results := [.lit (.bool true)], args := [d1, d2, d3, d4] }
  | _ => none }
def mappingAppliesRow : OpenClaim := { program := "ytdanihadkchbbaa", sum := "536d49960cbc321be2e08c4cde0d912a483f91c60fffa3bf951535bdbf2bb52d", func := "armistice/armisticelaw08.MappingApplies", spec := "mappingApplies", unfollowed := true, recurses := true, apart := false }
def MappingAppliesSaid : Prop := mappingAppliesRow.holds Try.pinned (OpenSpec.ofChange mappingAppliesSpec)

/-- ITS FALSE NEIGHBOUR: 'it returns false'. Refute it at one input. -/
def mappingAppliesWrong : ChangeSpec := { name := "mappingApplies", fn := fun _ => fun
  | [d1, d2, d3, d4] => { results := [.lit (.bool false)], args := [d1, d2, d3, d4] }
  | _ => none }
def MappingAppliesWrongFalsely : Prop := mappingAppliesRow.holds Try.pinned (OpenSpec.ofChange mappingAppliesWrong)

/-- 'armisticelaw08.MappingKnown': WHATEVER THE INPUT: true; the input reads as it did. -/
def mappingKnownSpec : ChangeSpec := { name := "mappingKnown", fn := fun _ => fun
  | [] => { results := [.lit (.bool true)], args := [] }
  | _ => none }
def mappingKnownRow : OpenClaim := { program := "ytdanihadkchbbaa", sum := "536d49960cbc321be2e08c4cde0d912a483f91c60fffa3bf951535bdbf2bb52d", func := "armistice/armisticelaw08.MappingKnown", spec := "mappingKnown", unfollowed := true, recurses := true, apart := false }
def MappingKnownSaid : Prop := mappingKnownRow.holds Try.pinned (OpenSpec.ofChange mappingKnownSpec)

/-- ITS FALSE NEIGHBOUR: 'it returns false'. Refute it at one input. -/
def mappingKnownWrong : ChangeSpec := { name := "mappingKnown", fn := fun _ => fun
  | [] => { results := [.lit (.bool false)], args := [] }
  | _ => none }
def MappingKnownWrongFalsely : Prop := mappingKnownRow.holds Try.pinned (OpenSpec.ofChange mappingKnownWrong)

/-- 'armisticelaw08.MappingHolds': WHATEVER THE INPUT: true; the input reads as it did. -/
def mappingHoldsSpec : ChangeSpec := { name := "mappingHolds", fn := fun _ => fun
  | [d1, d2, d3, d4] => { results := [.lit (.bool true)], args := [d1, d2, d3, d4] }
  | _ => none }
def mappingHoldsRow : OpenClaim := { program := "ytdanihadkchbbaa", sum := "536d49960cbc321be2e08c4cde0d912a483f91c60fffa3bf951535bdbf2bb52d", func := "armistice/armisticelaw08.MappingHolds", spec := "mappingHolds", unfollowed := true, recurses := true, apart := false }
def MappingHoldsSaid : Prop := mappingHoldsRow.holds Try.pinned (OpenSpec.ofChange mappingHoldsSpec)

/-- ITS FALSE NEIGHBOUR: 'it returns false'. Refute it at one input. -/
def mappingHoldsWrong : ChangeSpec := { name := "mappingHolds", fn := fun _ => fun
  | [d1, d2, d3, d4] => { results := [.lit (.bool false)], args := [d1, d2, d3, d4] }
  | _ => none }
def MappingHoldsWrongFalsely : Prop := mappingHoldsRow.holds Try.pinned (OpenSpec.ofChange mappingHoldsWrong)

/-- 'armisticelaw08.MappingTurns': WHATEVER THE INPUT: true; the input reads as it did. -/
def mappingTurnsSpec : ChangeSpec := { name := "mappingTurns", fn := fun _ => fun
  | [d1, d2, d3, d4, d5] => { results := [.lit (.bool true)], args := [d1, d2, d3, d4, d5] }
  | _ => none }
def mappingTurnsRow : OpenClaim := { program := "ytdanihadkchbbaa", sum := "536d49960cbc321be2e08c4cde0d912a483f91c60fffa3bf951535bdbf2bb52d", func := "armistice/armisticelaw08.MappingTurns", spec := "mappingTurns", unfollowed := true, recurses := true, apart := false }
def MappingTurnsSaid : Prop := mappingTurnsRow.holds Try.pinned (OpenSpec.ofChange mappingTurnsSpec)

/-- ITS FALSE NEIGHBOUR: 'it returns false'. Refute it at one input. -/
def mappingTurnsWrong : ChangeSpec := { name := "mappingTurns", fn := fun _ => fun
  | [d1, d2, d3, d4, d5] => { results := [.lit (.bool false)], args := [d1, d2, d3, d4, d5] }
  | _ => none }
def MappingTurnsWrongFalsely : Prop := mappingTurnsRow.holds Try.pinned (OpenSpec.ofChange mappingTurnsWrong)

/- THE SECOND FORM. 'bulk': how many values and letters a reading holds, each counted each time it is reached (what is shared counts as often as it is met; a slice's spare places count too). A statement '..UptoSaid' is the law's where the arguments, and the package variables that the reading takes, are together of bulk at most 1048576: NARROWER than '..Said'. Prove '..Said' where nothing that the law and all that it calls make is longer than what came in: it says more and counts as full. Else prove '..UptoSaid'. A law counts once. -/
mutual
def uptoBulk {H : Type} : DataW H → Nat
  | .lit (.string bytes) => bytes.length + 1
  | .lit _ => 1
  | .nil => 1
  | .ptr d => uptoBulk d + 1
  | .slice elems spare => uptoBulkAll elems + uptoBulkAll spare + 1
  | .agg parts => uptoBulkAll parts + 1
  | .iface _ d => uptoBulk d + 1
  | .map entries => uptoBulkEntries entries + 1
  | .held _ => 1
def uptoBulkAll {H : Type} : List (DataW H) → Nat
  | [] => 0
  | d :: r => uptoBulk d + uptoBulkAll r
def uptoBulkEntries {H : Type} : List (Lit × DataW H) → Nat
  | [] => 0
  | x :: r => uptoBulkEntry x + uptoBulkEntries r
def uptoBulkEntry {H : Type} : Lit × DataW H → Nat
  | (.string bytes, d) => bytes.length + uptoBulk d + 1
  | (_, d) => uptoBulk d + 1
 end
def uptoSmall : (H : Type) → List (DataW H) → Bool := fun _ ds => decide (uptoBulkAll ds ≤ 1048576)
def OpenSpec.upto (s : _root_.Go.ChangeSpec) : _root_.Go.OpenSpec := { _root_.Go.OpenSpec.ofChange s with cond := some uptoSmall }

/-- 'armisticelaw08.MappingLists', WHERE WHAT IT READS IS OF BULK AT MOST 1048576: true; the input reads as it did. -/
def mappingListsUptoRow : OpenClaim := { program := "ytdanihadkchbbaa", sum := "536d49960cbc321be2e08c4cde0d912a483f91c60fffa3bf951535bdbf2bb52d", func := "armistice/armisticelaw08.MappingLists", spec := "mappingLists", unfollowed := true, recurses := true, apart := false, narrowed := true }
def MappingListsUptoSaid : Prop := mappingListsUptoRow.holds Try.pinned (OpenSpec.upto mappingListsSpec)

/-- 'armisticelaw08.MappingApplies', WHERE WHAT IT READS IS OF BULK AT MOST 1048576: true; the input reads as it did. -/
def mappingAppliesUptoRow : OpenClaim := { program := "ytdanihadkchbbaa", sum := "536d49960cbc321be2e08c4cde0d912a483f91c60fffa3bf951535bdbf2bb52d", func := "armistice/armisticelaw08.MappingApplies", spec := "mappingApplies", unfollowed := true, recurses := true, apart := false, narrowed := true }
def MappingAppliesUptoSaid : Prop := mappingAppliesUptoRow.holds Try.pinned (OpenSpec.upto mappingAppliesSpec)

/-- 'armisticelaw08.MappingKnown', WHERE WHAT IT READS IS OF BULK AT MOST 1048576: true; the input reads as it did. -/
def mappingKnownUptoRow : OpenClaim := { program := "ytdanihadkchbbaa", sum := "536d49960cbc321be2e08c4cde0d912a483f91c60fffa3bf951535bdbf2bb52d", func := "armistice/armisticelaw08.MappingKnown", spec := "mappingKnown", unfollowed := true, recurses := true, apart := false, narrowed := true }
def MappingKnownUptoSaid : Prop := mappingKnownUptoRow.holds Try.pinned (OpenSpec.upto mappingKnownSpec)

/-- 'armisticelaw08.MappingHolds', WHERE WHAT IT READS IS OF BULK AT MOST 1048576: true; the input reads as it did. -/
def mappingHoldsUptoRow : OpenClaim := { program := "ytdanihadkchbbaa", sum := "536d49960cbc321be2e08c4cde0d912a483f91c60fffa3bf951535bdbf2bb52d", func := "armistice/armisticelaw08.MappingHolds", spec := "mappingHolds", unfollowed := true, recurses := true, apart := false, narrowed := true }
def MappingHoldsUptoSaid : Prop := mappingHoldsUptoRow.holds Try.pinned (OpenSpec.upto mappingHoldsSpec)

/-- 'armisticelaw08.MappingTurns', WHERE WHAT IT READS IS OF BULK AT MOST 1048576: true; the input reads as it did. -/
def mappingTurnsUptoRow : OpenClaim := { program := "ytdanihadkchbbaa", sum := "536d49960cbc321be2e08c4cde0d912a483f91c60fffa3bf951535bdbf2bb52d", func := "armistice/armisticelaw08.MappingTurns", spec := "mappingTurns", unfollowed := true, recurses := true, apart := false, narrowed := true }
def MappingTurnsUptoSaid : Prop := mappingTurnsUptoRow.holds Try.pinned (OpenSpec.upto mappingTurnsSpec)

end Rows
end Go.Proofs.Ytdanihadkchbbaa
