/- What the kinds of operations are (pure). -/
import Derived.RowKit
import Derived.IntWalk
import Derived.Below
namespace Go.Proofs.Ytmpglmepmdpjoaa
open Go.RowKit
set_option linter.unusedVariables false

instance lawB : LawfulBEq ByteArray where
  eq_of_beq := by
    rintro ⟨a⟩ ⟨b⟩ h
    have h' : (a == b) = true := h
    rw [eq_of_beq h']
  rfl := by
    rintro ⟨a⟩
    show (a == a) = true
    simp

/-- The word of the kind i + 1. -/
def wordB : Nat → ByteArray
  | 0 => ⟨#[97, 100, 100]⟩
  | 1 => ⟨#[114, 101, 97, 100]⟩
  | 2 => ⟨#[105, 110, 115, 101, 114, 116]⟩
  | 3 => ⟨#[114, 101, 109, 111, 118, 101]⟩
  | 4 => ⟨#[104, 97, 115]⟩
  | 5 => ⟨#[115, 105, 122, 101]⟩
  | 6 => ⟨#[112, 117, 116]⟩
  | 7 => ⟨#[103, 101, 116]⟩
  | 8 => ⟨#[100, 101, 108]⟩
  | 9 => ⟨#[101, 110, 113]⟩
  | 10 => ⟨#[100, 101, 113]⟩
  | 11 => ⟨#[108, 101, 110]⟩
  | 12 => ⟨#[100, 101, 112, 111, 115, 105, 116]⟩
  | 13 => ⟨#[119, 105, 116, 104, 100, 114, 97, 119]⟩
  | 14 => ⟨#[98, 97, 108, 97, 110, 99, 101]⟩
  | _ => ⟨#[]⟩
/-- The type of the kind i + 1. -/
def objN : Nat → Nat
  | 0 => 1
  | 1 => 1
  | 2 => 2
  | 3 => 2
  | 4 => 2
  | 5 => 2
  | 6 => 3
  | 7 => 3
  | 8 => 3
  | 9 => 4
  | 10 => 4
  | 11 => 4
  | 12 => 5
  | 13 => 5
  | 14 => 5
  | _ => 0
/-- How many arguments the kind i + 1 has. -/
def argN : Nat → Nat
  | 0 => 1
  | 1 => 0
  | 2 => 1
  | 3 => 1
  | 4 => 1
  | 5 => 0
  | 6 => 2
  | 7 => 1
  | 8 => 1
  | 9 => 1
  | 10 => 0
  | 11 => 0
  | 12 => 1
  | 13 => 1
  | 14 => 0
  | _ => 0
/-- What A may be: 0 any, 1 zero, 2 an amount. -/
def mA : Nat → Nat
  | 0 => 0
  | 1 => 1
  | 2 => 0
  | 3 => 0
  | 4 => 0
  | 5 => 1
  | 6 => 0
  | 7 => 0
  | 8 => 0
  | 9 => 0
  | 10 => 1
  | 11 => 1
  | 12 => 2
  | 13 => 2
  | 14 => 1
  | _ => 0
/-- What B may be. -/
def mB : Nat → Nat
  | 0 => 1
  | 1 => 1
  | 2 => 1
  | 3 => 1
  | 4 => 1
  | 5 => 1
  | 6 => 0
  | 7 => 1
  | 8 => 1
  | 9 => 1
  | 10 => 1
  | 11 => 1
  | 12 => 1
  | 13 => 1
  | 14 => 1
  | _ => 0
/-- What may be returned: 0 ok, 1 a number, 2 a bit, 3 an amount, 4 none or a number. -/
def mR : Nat → Nat
  | 0 => 0
  | 1 => 1
  | 2 => 2
  | 3 => 2
  | 4 => 2
  | 5 => 3
  | 6 => 4
  | 7 => 4
  | 8 => 4
  | 9 => 0
  | 10 => 4
  | 11 => 3
  | 12 => 2
  | 13 => 2
  | 14 => 3
  | _ => 0

def okN : Nat → Int → Bool
  | 0, _ => true
  | 1, n => n == 0
  | _, n => decide (0 ≤ n) && decide (n ≤ 4611686018427387904)
def okR : Nat → Int → Int → Bool
  | 0, k, n => k == 0 && n == 0
  | 1, k, _ => k == 2
  | 2, k, n => k == 2 && (n == 0 || n == 1)
  | 3, k, n => k == 2 && (decide (0 ≤ n) && decide (n ≤ 4611686018427387904))
  | _, k, n => k == 2 || (k == 1 && n == 0)

/-- What Check tells of an operation of the kind i + 1. -/
def checkI (i : Nat) (a b k n : Int) : Int := if okN (mA i) a = false ∨ okN (mB i) b = false then 2 else if okR (mR i) k n = false then 9 else 0

/-- Which kind has the number. -/
def kindI (k : Int) : Option Nat := (List.range 15).find? fun i => ((i : Int) + 1) == k
/-- Which kind has the word. -/
def wordI (s : ByteArray) : Option Nat := (List.range 15).find? fun i => wordB i == s
def checkP (kd a b k n : Int) : Int := match kindI kd with
  | none => 6
  | some i => checkI i a b k n
end Go.Proofs.Ytmpglmepmdpjoaa
