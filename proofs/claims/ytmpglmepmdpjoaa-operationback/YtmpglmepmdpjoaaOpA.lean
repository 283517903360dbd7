/- The rules of the kinds, as the world has them; find. -/
import Derived.Test.YtmpglmepmdpjoaaOpPlain
import Derived.Test.YtmpglmepmdpjoaaOpBase
import Derived.WalkKit
import Derived.WalkSpells
import Derived.WalkLawsBesides
import Derived.Lib.Hide
import Derived.IntWalk
import Derived.Laws.Externs
import Derived.Laws.StructEq
import Derived.Deep.QuietTactic
import Derived.BigQuiet
import Derived.Deep.RegionWith
namespace Go.Proofs.Ytmpglmepmdpjoaa
open Go.RowKit
set_option linter.unusedVariables false

def fN : Nat → Nat
  | 0 => 60
  | 1 => 61
  | _ => 67
def fR : Nat → Nat
  | 0 => 62
  | 1 => 63
  | 2 => 64
  | 3 => 65
  | _ => 66
def fv (k : Nat) : Value := .func (.func k) #[] #[]
def ruleL (i : Nat) : List Value := [.int .i64 ((i : Int) + 1), .int .i64 (objN i), .string (wordB i), .int .i64 (argN i), fv (fN (mA i)), fv (fN (mB i)), fv (fR (mR i))]
def ruleV (i : Nat) : Value := .agg (ruleL i).toArray
def rule0 : Value := .agg #[.int .i64 0, .int .i64 0, .string ⟨#[]⟩, .int .i64 0, .nilFunc, .nilFunc, .nilFunc]

def BoolPost (b : Bool) (w : World) (e : Ending) (w' : World) : Prop := e = .returned (.bool b) ∧ Below w.heap.size w w'

theorem num0 (n : Int) (w : World) : Calls Try.prog 60 #[.int .i64 n] w (BoolPost true w) := by
  go_enter Try.func60, Try.ntmps60
  go_wp2
  go_ret
  exact ⟨rfl, Below.refl _ _⟩
theorem num1 (n : Int) (w : World) : Calls Try.prog 61 #[.int .i64 n] w (BoolPost (n == 0) w) := by
  go_enter Try.func61, Try.ntmps61
  go_wp2
  go_ret
  exact ⟨rfl, Below.refl _ _⟩
theorem num2 (n : Int) (w : World) : Calls Try.prog 67 #[.int .i64 n] w (BoolPost (decide (0 ≤ n) && decide (n ≤ 4611686018427387904)) w) := by
  go_enter Try.func67, Try.ntmps67
  cases h0 : decide (0 ≤ n) <;> cases h1 : decide (n ≤ 4611686018427387904)
  all_goals go_wp2
  all_goals go_ret
  all_goals exact ⟨rfl, Below.refl _ _⟩
theorem num_any (m : Nat) (n : Int) (w : World) : Calls Try.prog (fN m) #[.int .i64 n] w (BoolPost (okN m n) w) := by
  match m with
  | 0 => exact num0 n w
  | 1 => exact num1 n w
  | m + 2 => exact num2 n w

theorem ret1 (k n : Int) (w : World) : Calls Try.prog 63 #[.agg #[.int .i64 k, .int .i64 n]] w (BoolPost (k == 2) w) := by
  go_enter Try.func63, Try.ntmps63
  go_wp2
  go_ret
  exact ⟨rfl, (Below.refl _ _).alloc (Nat.le_refl _) _⟩
theorem ret0 (k n : Int) (w : World) : Calls Try.prog 62 #[.agg #[.int .i64 k, .int .i64 n]] w (BoolPost (k == 0 && n == 0) w) := by
  go_enter Try.func62, Try.ntmps62
  cases h0 : (k == 0) <;> cases h1 : (n == 0)
  all_goals go_wp2
  all_goals go_ret
  all_goals exact ⟨rfl, (Below.refl _ _).alloc (Nat.le_refl _) _⟩

def cells7 (i : Nat) : List Value := ruleL i
def rulesL : List Value := (List.range 15).flatMap ruleL
def rulesO : Obj := .cells rulesL.toArray 52
def RulesPost (w : World) (e : Ending) (w' : World) : Prop := e = .returned (.slice (some ⟨w.heap.size, 0, none⟩) 15 15) ∧ w' = w.alloc rulesO
set_option maxRecDepth 100000 in
set_option maxHeartbeats 1000000 in
theorem rules_any (w : World) : Calls Try.prog 47 #[] w (RulesPost w) := by
  go_enter Try.func47, Try.ntmps47
  go_wp2
  go_ret
  exact ⟨rfl, rfl⟩
end Go.Proofs.Ytmpglmepmdpjoaa
